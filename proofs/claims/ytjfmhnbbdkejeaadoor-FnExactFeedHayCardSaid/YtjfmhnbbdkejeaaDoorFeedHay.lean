/-
  spec.FeedHay and impl.FeedHay by contracts; laws.FnExactFeedHay returns true.
-/
import Derived.Test.YtjfmhnbbdkejeaaDoorErrO
import Derived.Test.YtjfmhnbbdkejeaaDoorLater
namespace Go.Proofs.YtjfmhnbbdkejeaaDoor
open Go Go.RowKit Go.BigFrame

/-- Three numbers as results. -/
def num3 (n m c : Int) : Value := .tuple #[.int .i64 n, .int .i64 m, .int .i64 c]
theorem num3_eq (n m c : Int) : num3 n m c = .tuple #[.int .i64 n, .int .i64 m, .int .i64 c] := rfl
theorem ret_num3 {n n' m m' c c' : Int} (h : n = n') (h1 : m = m') (h' : c = c') : Ending.returned (.tuple #[.int .i64 n, .int .i64 m, .int .i64 c]) = .returned (num3 n' m' c') := by rw [h, h1, h', num3_eq]

theorem l04Eats_any (n : Int) (w : World) :
    Calls Tryd.prog 67 #[.int .i64 n] w fun e w' => e = .returned (.bool (inB 0 100000 n)) ∧ Below w.heap.size w w' := by
  have hM := Mem.nil w
  go_enter Tryd.func67, Tryd.ntmps67
  go_wp2_with (go_at_call 46; refine (l00In_any _ _ _ _).mono ?_; rintro e W' ⟨rfl, hb'⟩; have hM' := hM.call hb'; clear hM hb'; have hM := hM'; clear hM')
  go_ret
  exact ⟨rfl, hM.below⟩
theorem l04Day_any (n : Int) (w : World) :
    Calls Tryd.prog 68 #[.int .i64 n] w fun e w' => e = .returned (.bool (inB 0 365 n)) ∧ Below w.heap.size w w' := by
  have hM := Mem.nil w
  go_enter Tryd.func68, Tryd.ntmps68
  go_wp2_with (go_at_call 46; refine (l00In_any _ _ _ _).mono ?_; rintro e W' ⟨rfl, hb'⟩; have hM' := hM.call hb'; clear hM hb'; have hM := hM'; clear hM')
  go_ret
  exact ⟨rfl, hM.below⟩

/-- The hay behind k days; on how many of them there was enough. -/
def hayK (y e : Int) : Nat → Int
  | 0 => y
  | k + 1 => if e ≤ hayK y e k then hayK y e k - e else 0
def enK (y e : Int) : Nat → Nat
  | 0 => 0
  | k + 1 => if e ≤ hayK y e k then enK y e k + 1 else enK y e k
theorem hay_in {y e : Int} (hy : 0 ≤ y ∧ y ≤ 1000000) (he : 0 ≤ e) : ∀ k, 0 ≤ hayK y e k ∧ hayK y e k ≤ 1000000
  | 0 => hy
  | k + 1 => by
    have := hay_in hy he k
    simp only [hayK]
    split <;> omega
theorem en_le (y e : Int) : ∀ k, enK y e k ≤ k
  | 0 => Nat.le_refl _
  | k + 1 => by
    have := en_le y e k
    simp only [enK]
    split <;> omega
theorem hay_yes {y e : Int} {k : Nat} (h : e ≤ hayK y e k) : hayK y e (k + 1) = hayK y e k - e ∧ enK y e (k + 1) = enK y e k + 1 := by simp [hayK, enK, h]
theorem hay_no {y e : Int} {k : Nat} (h : ¬ e ≤ hayK y e k) : hayK y e (k + 1) = 0 ∧ enK y e (k + 1) = enK y e k := by simp [hayK, enK, h]
/-- What FeedHay answers. -/
def feedB (y e d : Int) : Bool := inB 0 1000000 y && inB 0 100000 e && inB 0 365 d
def feedR (y e d : Int) : Value := if feedB y e d then num3 (hayK y e d.toNat) (enK y e d.toNat) 0 else num3 0 0 2
theorem feed_no {y e d : Int} (h : feedB y e d = false) : feedR y e d = num3 0 0 2 := by simp [feedR, h]
theorem feed_ok {y e : Int} {d : Nat} (h : feedB y e d = true) : feedR y e d = num3 (hayK y e d) (enK y e d) 0 := by simp [feedR, h]
def HayIn (y e : Int) (n : Nat) (w : World) (a b i : Value) (wr : World) : Prop :=
  ∃ k : Nat, k ≤ n ∧ a = .int .i64 (hayK y e k) ∧ b = .int .i64 (enK y e k : Nat) ∧ i = .int .i64 k ∧ Below w.heap.size w wr

set_option maxRecDepth 100000 in
set_option maxHeartbeats 2000000 in
theorem specFeedHay_any (y e d : Int) (w : World) :
    Calls Tryd.prog 31 #[.int .i64 y, .int .i64 e, .int .i64 d] w fun r w' => r = .returned (feedR y e d) ∧ Below w.heap.size w w' := by
  have hM := Mem.nil w
  cases h1 : inB 0 1000000 y
  · have Hr := Lib.hid (feed_no (y := y) (e := e) (d := d) (by simp [feedB, h1]))
    have H1 := Lib.hid h1
    clear h1
    go_enter Tryd.func31, Tryd.ntmps31
    go_wp2_with (first | (go_at_call 46; (with_reducible refine (l00In_any y _ _ _).mono ?_); rintro e W' ⟨rfl, hb'⟩; rw [H1.out]; have hM' := hM.call hb'; clear hM hb'; have hM := hM'; clear hM'))
    refine bodyPost_ret (results_tmp3 rfl _ _ _) rfl ?_
    exact ⟨by rw [Hr.out]; rfl, hM.below⟩
  cases h2 : inB 0 100000 e
  · have Hr := Lib.hid (feed_no (y := y) (e := e) (d := d) (by simp [feedB, h2]))
    have H1 := Lib.hid h1
    have H2 := Lib.hid h2
    clear h1 h2
    go_enter Tryd.func31, Tryd.ntmps31
    go_wp2_with (first | (go_at_call 46; (with_reducible refine (l00In_any y _ _ _).mono ?_); rintro e W' ⟨rfl, hb'⟩; rw [H1.out]; have hM' := hM.call hb'; clear hM hb'; have hM := hM'; clear hM') | (go_at_call 67; (with_reducible refine (l04Eats_any e _).mono ?_); rintro e W' ⟨rfl, hb'⟩; rw [H2.out]; have hM' := hM.call hb'; clear hM hb'; have hM := hM'; clear hM'))
    refine bodyPost_ret (results_tmp3 rfl _ _ _) rfl ?_
    exact ⟨by rw [Hr.out]; rfl, hM.below⟩
  cases h3 : inB 0 365 d
  · have Hr := Lib.hid (feed_no (y := y) (e := e) (d := d) (by simp [feedB, h3]))
    have H1 := Lib.hid h1
    have H2 := Lib.hid h2
    have H3 := Lib.hid h3
    clear h1 h2 h3
    go_enter Tryd.func31, Tryd.ntmps31
    go_wp2_with (first | (go_at_call 46; (with_reducible refine (l00In_any y _ _ _).mono ?_); rintro e W' ⟨rfl, hb'⟩; rw [H1.out]; have hM' := hM.call hb'; clear hM hb'; have hM := hM'; clear hM') | (go_at_call 67; (with_reducible refine (l04Eats_any e _).mono ?_); rintro e W' ⟨rfl, hb'⟩; rw [H2.out]; have hM' := hM.call hb'; clear hM hb'; have hM := hM'; clear hM') | (go_at_call 68; (with_reducible refine (l04Day_any d _).mono ?_); rintro e W' ⟨rfl, hb'⟩; rw [H3.out]; have hM' := hM.call hb'; clear hM hb'; have hM := hM'; clear hM'))
    refine bodyPost_ret (results_tmp3 rfl _ _ _) rfl ?_
    exact ⟨by rw [Hr.out]; rfl, hM.below⟩
  have b1 := inB_true h1
  have b2 := inB_true h2
  have b3 := inB_true h3
  obtain ⟨n, rfl⟩ : ∃ n : Nat, d = n := ⟨d.toNat, by omega⟩
  have Hr := Lib.hid (feed_ok (y := y) (e := e) (d := n) (by simp [feedB, h1, h2, h3]))
  have H1 := Lib.hid h1
  have H2 := Lib.hid h2
  have H3 := Lib.hid h3
  clear h1 h2 h3
  go_enter Tryd.func31, Tryd.ntmps31
  go_wp2_with (first | (go_at_call 46; (with_reducible refine (l00In_any y _ _ _).mono ?_); rintro e W' ⟨rfl, hb'⟩; rw [H1.out]; have hM' := hM.call hb'; clear hM hb'; have hM := hM'; clear hM') | (go_at_call 67; (with_reducible refine (l04Eats_any e _).mono ?_); rintro e W' ⟨rfl, hb'⟩; rw [H2.out]; have hM' := hM.call hb'; clear hM hb'; have hM := hM'; clear hM') | (go_at_call 68; (with_reducible refine (l04Day_any _ _).mono ?_); rintro e W' ⟨rfl, hb'⟩; rw [H3.out]; have hM' := hM.call hb'; clear hM hb'; have hM := hM'; clear hM'))
  have hB := hM.below
  clear hM
  go_loopw [0, 9, 10] (fun a b i wr => HayIn y e n w a b i wr) (fun _ _ i _ => n - (intOf i).toNat)
  case atStart => exact ⟨0, by omega, rfl, rfl, rfl, hB⟩
  case round =>
    clear hB
    obtain ⟨k, hk, rfl, rfl, rfl, hB⟩ := hrel
    by_cases hlt : k < n
    · have lk : (k : Int) < n := by omega
      have hh := hay_in b1 b2.1 k
      have hn := en_le y e k
      have c1 : IntKind.i64.wrap ((enK y e k : Nat) + 1 : Int) = ((enK y e k : Nat) + 1 : Int) := IntWalk.i64_in _ (by omega)
      have hM := Mem.start (w := Base.of w) hB
      clear hB
      by_cases hc : e ≤ hayK y e k
      · have Hs := Lib.hid (hay_yes hc)
        have c2 : IntKind.i64.wrap (hayK y e k - e) = hayK y e k - e := IntWalk.i64_in _ (by omega)
        have Hm : Hid (minB (hayK y e k) e = e) := Lib.hid (minB_ge (by omega))
        clear hh hn
        go_wp2_with (first | (go_at_call 69; (with_reducible refine (l00Min_any (hayK y e k) e _).mono ?_); rintro e W' ⟨rfl, hb'⟩; rw [Hm.out]; have hM' := hM.call hb'; clear hM hb'; have hM := hM'; clear hM'))
        go_roundw
        case rel => exact (⟨k + 1, by omega, by rw [Hs.out.1], by simp only [Hs.out.2]; first | done | rfl | exact congrArg _ (by omega), by go_num, hM.below⟩ : HayIn y e n w _ _ _ _)
        case measure => simp [intOf]; omega
      · have Hs := Lib.hid (hay_no hc)
        have Hm : Hid (minB (hayK y e k) e = hayK y e k) := Lib.hid (minB_lt (by omega))
        clear hh hn
        go_wp2_with (first | (go_at_call 69; (with_reducible refine (l00Min_any (hayK y e k) e _).mono ?_); rintro e W' ⟨rfl, hb'⟩; rw [Hm.out]; have hM' := hM.call hb'; clear hM hb'; have hM := hM'; clear hM'))
        go_roundw
        case rel => exact (⟨k + 1, by omega, by rw [Hs.out.1], by rw [Hs.out.2], by go_num, hM.below⟩ : HayIn y e n w _ _ _ _)
        case measure => simp [intOf]; omega
    · obtain rfl : k = n := by omega
      go_wp2
      refine bodyPost_ret (results_tmp3 rfl _ _ _) rfl ?_
      exact ⟨by rw [Hr.out]; rfl, hB⟩

set_option maxRecDepth 100000 in
set_option maxHeartbeats 2000000 in
theorem implFeedHay_any {a : Nat → Addr} (y e d : Int) (w : World) (hE : Errs a w) :
    Calls Tryd.prog 32 #[.int .i64 y, .int .i64 e, .int .i64 d] w fun r w' => r = .returned (feedR y e d) ∧ Below w.heap.size w w' := by
  have hM := Mem.nil w
  have HE := Lib.hid hE
  clear hE
  cases hi : feedB y e d
  · have Hr := Lib.hid (feed_no hi)
    have Hc := Lib.hid (cnt3_yes (p := !inB 0 1000000 y) (q := !inB 0 100000 e) (r := !inB 0 365 d) (by unfold feedB at hi; revert hi; cases inB 0 1000000 y <;> cases inB 0 100000 e <;> cases inB 0 365 d <;> decide))
    have Hl := Lib.hid (Nat.le_trans (cntE_le (es3 (!inB 0 1000000 y) (!inB 0 100000 e) (!inB 0 365 d)) 3) (show 3 ≤ 1000 by omega))
    clear hi
    go_enter Tryd.func32, Tryd.ntmps32
    go_wp2_with (first | (go_at_call 51; (with_reducible refine (checkUpTo_any _ _ _ (HE.out.below hM.below)).mono ?_); rintro e W' ⟨rfl, hb'⟩; have hM' := hM.call hb'; clear hM hb'; have hM := hM'; clear hM') | (refine wpList_lit3 rfl _ _ _ _ _ rfl (errO (a 1) (!inB 0 1000000 y)) (errO (a 1) (!inB 0 100000 e)) (errO (a 1) (!inB 0 365 d)) rfl rfl rfl (errO_one _ _) (errO_one _ _) (errO_one _ _) _ errs_under err_info2 hM ?_; intro bn W' hbn hM'; clear hM; have hM := hM'; clear hM') | (go_at_call 65; refine (join_some (a 1) (es3 (!inB 0 1000000 y) (!inB 0 100000 e) (!inB 0 365 d)) _ 3 3 (by omega) Hc.out _ ((hM.ats 0 _ _ _ rfl).congr (lit3_errE _ _ _ _))).mono ?_; rintro e W' ⟨jb, rfl, hJ, hb'⟩; have hM' := hM.call hb'; clear hM hb'; have hM := hM'; clear hM') | (go_at_call 50; (refine (codeJ_1 jb _ Hc.out Hl.out (HE.out.below hM.below) hJ).mono ?_); rintro e W' ⟨rfl, rfl⟩))
    refine bodyPost_ret (results_tmp3 rfl _ _ _) rfl ?_
    exact ⟨by rw [Hr.out]; rfl, hM.below⟩
  have hi' := hi
  unfold feedB at hi
  rw [Bool.and_eq_true, Bool.and_eq_true] at hi
  have b1 := inB_true hi.1.1
  have b2 := inB_true hi.1.2
  have b3 := inB_true hi.2
  obtain ⟨n, rfl⟩ : ∃ n : Nat, d = n := ⟨d.toNat, by omega⟩
  have Hr := Lib.hid (feed_ok hi')
  have H1 := Lib.hid hi.1.1
  have H2 := Lib.hid hi.1.2
  have H3 := Lib.hid hi.2
  clear hi hi'
  go_enter Tryd.func32, Tryd.ntmps32
  go_wp2_with (first | (go_at_call 51; (with_reducible refine (checkUpTo_yes _ _ _ H1.out).mono ?_); rintro e W' ⟨rfl, hb'⟩; have hM' := hM.call hb'; clear hM hb'; have hM := hM'; clear hM') | (go_at_call 51; (with_reducible refine (checkUpTo_yes _ _ _ H2.out).mono ?_); rintro e W' ⟨rfl, hb'⟩; have hM' := hM.call hb'; clear hM hb'; have hM := hM'; clear hM') | (go_at_call 51; (with_reducible refine (checkUpTo_yes _ _ _ H3.out).mono ?_); rintro e W' ⟨rfl, hb'⟩; have hM' := hM.call hb'; clear hM hb'; have hM := hM'; clear hM') | (refine wpList_lit3 rfl _ _ _ _ _ rfl (errO (a 1) false) (errO (a 1) false) (errO (a 1) false) rfl rfl rfl (errO_one _ _) (errO_one _ _) (errO_one _ _) _ errs_under err_info2 hM ?_; intro bn W' hbn hM'; clear hM; have hM := hM'; clear hM') | (go_at_call 65; refine (join_none (a 1) (es3 false false false) _ 3 3 (by omega) cnt3_no _ ((hM.ats 0 _ _ _ rfl).congr (lit3_errE _ _ _ _))).mono ?_; rintro e W' ⟨rfl, hb'⟩; have hM' := hM.call hb'; clear hM hb'; have hM := hM'.drop; clear hM'))
  have hB := hM.below
  clear hM
  go_loopw [0, 10, 24] (fun a b i wr => HayIn y e n w a b i wr) (fun _ _ i _ => n - (intOf i).toNat)
  case atStart => exact ⟨0, by omega, rfl, rfl, rfl, hB⟩
  case round =>
    clear hB
    obtain ⟨k, hk, rfl, rfl, rfl, hB⟩ := hrel
    by_cases hlt : k < n
    · have lk : (k : Int) < n := by omega
      have hh := hay_in b1 b2.1 k
      have hn := en_le y e k
      have c1 : IntKind.i64.wrap ((enK y e k : Nat) + 1 : Int) = ((enK y e k : Nat) + 1 : Int) := IntWalk.i64_in _ (by omega)
      by_cases hc : e ≤ hayK y e k
      · have Hs := Lib.hid (hay_yes hc)
        have c2 : IntKind.i64.wrap (hayK y e k - e) = hayK y e k - e := IntWalk.i64_in _ (by omega)
        by_cases hc2 : e < hayK y e k
        · clear hh hn
          go_wp2
          go_roundw
          case rel => exact (⟨k + 1, by omega, by rw [Hs.out.1], by simp only [Hs.out.2]; first | done | rfl | exact congrArg _ (by omega), by go_num, hB⟩ : HayIn y e n w _ _ _ _)
          case measure => simp [intOf]; omega
        · have hz : Hid (hayK y e k - e = 0) := Lib.hid (by omega)
          clear hh hn
          go_wp2
          go_roundw
          case rel => exact (⟨k + 1, by omega, by rw [Hs.out.1, hz.out], by simp only [Hs.out.2]; first | done | rfl | exact congrArg _ (by omega), by go_num, hB⟩ : HayIn y e n w _ _ _ _)
          case measure => simp [intOf]; omega
      · have Hs := Lib.hid (hay_no hc)
        have hc2 : ¬ e < hayK y e k := by omega
        clear hh hn
        go_wp2
        go_roundw
        case rel => exact (⟨k + 1, by omega, by rw [Hs.out.1], by rw [Hs.out.2], by go_num, hB⟩ : HayIn y e n w _ _ _ _)
        case measure => simp [intOf]; omega
    · obtain rfl : k = n := by omega
      go_wp2
      refine bodyPost_ret (results_tmp3 rfl _ _ _) rfl ?_
      exact ⟨by rw [Hr.out]; rfl, hB⟩

theorem feedR_num (y e d : Int) : ∃ r s c, feedR y e d = num3 r s c := by
  unfold feedR; split <;> exact ⟨_, _, _, rfl⟩

set_option maxRecDepth 100000 in
set_option maxHeartbeats 1000000 in
theorem lawFeedHay_any {a : Nat → Addr} (y e d : Int) (w : World) (hE : Errs a w) :
    Calls Tryd.prog 8 #[.int .i64 y, .int .i64 e, .int .i64 d] w fun e w' => e = .returned (.bool true) ∧ Below w.heap.size w w' := by
  have hM := Mem.nil w
  have HE := Lib.hid hE
  have hS := fun W => specFeedHay_any y e d W
  have hI := fun W hE => implFeedHay_any (a := a) y e d W hE
  obtain ⟨r, s, c, hq⟩ := feedR_num y e d
  rw [hq] at hS hI
  have Hz := Lib.hid (num3_eq r s c)
  have HS := Lib.hid hS
  have HI := Lib.hid hI
  clear hE hS hI hq
  go_enter Tryd.func8, Tryd.ntmps8
  go_wp2_with (first | (go_at_call 31; (with_reducible refine (HS.out _).mono ?_); rintro e W' ⟨rfl, hb'⟩; rw [Hz.out]; have hM' := hM.call hb'; clear hM hb'; have hM := hM'; clear hM') | (go_at_call 32; (with_reducible refine (HI.out _ (HE.out.below hM.below)).mono ?_); rintro e W' ⟨rfl, hb'⟩; rw [Hz.out]; have hM' := hM.call hb'; clear hM hb'; have hM := hM'; clear hM'))
  go_ret
  exact ⟨rfl, hM.below⟩
end Go.Proofs.YtjfmhnbbdkejeaaDoor
