/-
  Several texts in one: ErrO, FeedHay, DaysTo.
-/
import Derived.Test.YtflobpbfpkoghaaDoorPkB
import Derived.Test.YtflobpbfpkoghaaDoorCheckGrass
import Derived.Test.YtflobpbfpkoghaaDoorLater
import Derived.Test.YtflobpbfpkoghaaDoorGrowCell
/-
  Errors that are there or not: checks as values; joined errors of two and of three.
-/
namespace Go.Proofs.YtflobpbfpkoghaaDoor
open Go Go.RowKit Go.BigFrame

/-- The error x, or none. -/
def errO (x : Addr) (b : Bool) : Value := if b then errV x else .nilIface
theorem errO_one (x : Addr) (b : Bool) : (errO x b).oneCell' = true := by cases b <;> rfl
theorem checkUpTo_any {a : Nat → Addr} (n m : Int) (w : World) (hE : Errs a w) :
    Calls Tryd.prog 47 #[.int .i64 n, .int .i64 m] w fun e w' => e = .returned (errO (a 1) (!inB 0 m n)) ∧ Below w.heap.size w w' := by
  cases h : inB 0 m n
  · exact checkUpTo_no n m w hE h
  · exact checkUpTo_yes n m w h
theorem checkGrass_any {a : Nat → Addr} (n : Int) (w : World) (hE : Errs a w) :
    Calls Tryd.prog 39 #[.int .i64 n] w fun e w' => e = .returned (errO (a 1) (!inB 0 1000 n)) ∧ Below w.heap.size w w' := by
  cases h : inB 0 1000 n
  · exact checkGrass_no n w hE h
  · exact checkGrass_yes n w h
def es2 (p q : Bool) : Nat → Bool := fun k => if k = 0 then p else q
def es3 (p q r : Bool) : Nat → Bool := fun k => if k = 0 then p else if k = 1 then q else r
theorem lit2_errE (x : Addr) (p q : Bool) : ∀ k, k < 2 → (fun k => if k = 0 then errO x p else errO x q) k = errE x (es2 p q) k := fun k _ => by
  unfold errE es2 errO
  by_cases h : k = 0 <;> simp [h]
theorem lit3_errE (x : Addr) (p q r : Bool) : ∀ k, k < 3 → (fun k => if k = 0 then errO x p else if k = 1 then errO x q else errO x r) k = errE x (es3 p q r) k := fun k _ => by
  unfold errE es3 errO
  by_cases h : k = 0
  · simp [h]
  · by_cases h' : k = 1 <;> simp [h, h']
theorem cnt2_no : cntE (es2 false false) 2 = 0 := by decide
theorem cnt3_no : cntE (es3 false false false) 3 = 0 := by decide
theorem cnt2_yes {p q : Bool} (h : (p || q) = true) : 0 < cntE (es2 p q) 2 := by revert h; cases p <;> cases q <;> decide
theorem cnt3_yes {p q r : Bool} (h : (p || q || r) = true) : 0 < cntE (es3 p q r) 3 := by revert h; cases p <;> cases q <;> cases r <;> decide
end Go.Proofs.YtflobpbfpkoghaaDoor

/-
  spec.FeedHay and impl.FeedHay by contracts; laws.FnExactFeedHay returns true.
-/
namespace Go.Proofs.YtflobpbfpkoghaaDoor
open Go Go.RowKit Go.BigFrame

/-- Three numbers as results. -/
def num3 (n m c : Int) : Value := .tuple #[.int .i64 n, .int .i64 m, .int .i64 c]
theorem num3_eq (n m c : Int) : num3 n m c = .tuple #[.int .i64 n, .int .i64 m, .int .i64 c] := rfl
theorem ret_num3 {n n' m m' c c' : Int} (h : n = n') (h1 : m = m') (h' : c = c') : Ending.returned (.tuple #[.int .i64 n, .int .i64 m, .int .i64 c]) = .returned (num3 n' m' c') := by rw [h, h1, h', num3_eq]

theorem l04Eats_any (n : Int) (w : World) :
    Calls Tryd.prog 44 #[.int .i64 n] w fun e w' => e = .returned (.bool (inB 0 100000 n)) ∧ Below w.heap.size w w' := by
  have hM := Mem.nil w
  go_enter Tryd.func44, Tryd.ntmps44
  go_wp2_with (go_at_call 43; refine (l00In_any _ _ _ _).mono ?_; rintro e W' ⟨rfl, hb'⟩; have hM' := hM.call hb'; clear hM hb'; have hM := hM'; clear hM')
  go_ret
  exact ⟨rfl, hM.below⟩
theorem l04Day_any (n : Int) (w : World) :
    Calls Tryd.prog 45 #[.int .i64 n] w fun e w' => e = .returned (.bool (inB 0 365 n)) ∧ Below w.heap.size w w' := by
  have hM := Mem.nil w
  go_enter Tryd.func45, Tryd.ntmps45
  go_wp2_with (go_at_call 43; refine (l00In_any _ _ _ _).mono ?_; rintro e W' ⟨rfl, hb'⟩; have hM' := hM.call hb'; clear hM hb'; have hM := hM'; clear hM')
  go_ret
  exact ⟨rfl, hM.below⟩

/-- The hay behind k days; on how many of them there was enough. -/
def hayK (y e : Int) : Nat → Int
  | 0 => y
  | k + 1 => if e ≤ hayK y e k then hayK y e k - e else 0
def enK (y e : Int) : Nat → Nat
  | 0 => 0
  | k + 1 => if e ≤ hayK y e k then enK y e k + 1 else enK y e k
theorem hay_in {y e : Int} (hy : 0 ≤ y ∧ y ≤ 1000000) (he : 0 ≤ e) : ∀ k, 0 ≤ hayK y e k ∧ hayK y e k ≤ 1000000
  | 0 => hy
  | k + 1 => by
    have := hay_in hy he k
    simp only [hayK]
    split <;> omega
theorem en_le (y e : Int) : ∀ k, enK y e k ≤ k
  | 0 => Nat.le_refl _
  | k + 1 => by
    have := en_le y e k
    simp only [enK]
    split <;> omega
theorem hay_yes {y e : Int} {k : Nat} (h : e ≤ hayK y e k) : hayK y e (k + 1) = hayK y e k - e ∧ enK y e (k + 1) = enK y e k + 1 := by simp [hayK, enK, h]
theorem hay_no {y e : Int} {k : Nat} (h : ¬ e ≤ hayK y e k) : hayK y e (k + 1) = 0 ∧ enK y e (k + 1) = enK y e k := by simp [hayK, enK, h]
/-- What FeedHay answers. -/
def feedB (y e d : Int) : Bool := inB 0 1000000 y && inB 0 100000 e && inB 0 365 d
def feedR (y e d : Int) : Value := if feedB y e d then num3 (hayK y e d.toNat) (enK y e d.toNat) 0 else num3 0 0 2
theorem feed_no {y e d : Int} (h : feedB y e d = false) : feedR y e d = num3 0 0 2 := by simp [feedR, h]
theorem feed_ok {y e : Int} {d : Nat} (h : feedB y e d = true) : feedR y e d = num3 (hayK y e d) (enK y e d) 0 := by simp [feedR, h]
def HayIn (y e : Int) (n : Nat) (w : World) (a b i : Value) (wr : World) : Prop :=
  ∃ k : Nat, k ≤ n ∧ a = .int .i64 (hayK y e k) ∧ b = .int .i64 (enK y e k : Nat) ∧ i = .int .i64 k ∧ Below w.heap.size w wr

set_option maxRecDepth 100000 in
set_option maxHeartbeats 2000000 in
theorem specFeedHay_any (y e d : Int) (w : World) :
    Calls Tryd.prog 18 #[.int .i64 y, .int .i64 e, .int .i64 d] w fun r w' => r = .returned (feedR y e d) ∧ Below w.heap.size w w' := by
  have hM := Mem.nil w
  cases h1 : inB 0 1000000 y
  · have Hr := Lib.hid (feed_no (y := y) (e := e) (d := d) (by simp [feedB, h1]))
    have H1 := Lib.hid h1
    clear h1
    go_enter Tryd.func18, Tryd.ntmps18
    go_wp2_with (first | (go_at_call 43; (with_reducible refine (l00In_any y _ _ _).mono ?_); rintro e W' ⟨rfl, hb'⟩; rw [H1.out]; have hM' := hM.call hb'; clear hM hb'; have hM := hM'; clear hM'))
    refine bodyPost_ret (results_tmp3 rfl _ _ _) rfl ?_
    exact ⟨by rw [Hr.out]; rfl, hM.below⟩
  cases h2 : inB 0 100000 e
  · have Hr := Lib.hid (feed_no (y := y) (e := e) (d := d) (by simp [feedB, h2]))
    have H1 := Lib.hid h1
    have H2 := Lib.hid h2
    clear h1 h2
    go_enter Tryd.func18, Tryd.ntmps18
    go_wp2_with (first | (go_at_call 43; (with_reducible refine (l00In_any y _ _ _).mono ?_); rintro e W' ⟨rfl, hb'⟩; rw [H1.out]; have hM' := hM.call hb'; clear hM hb'; have hM := hM'; clear hM') | (go_at_call 44; (with_reducible refine (l04Eats_any e _).mono ?_); rintro e W' ⟨rfl, hb'⟩; rw [H2.out]; have hM' := hM.call hb'; clear hM hb'; have hM := hM'; clear hM'))
    refine bodyPost_ret (results_tmp3 rfl _ _ _) rfl ?_
    exact ⟨by rw [Hr.out]; rfl, hM.below⟩
  cases h3 : inB 0 365 d
  · have Hr := Lib.hid (feed_no (y := y) (e := e) (d := d) (by simp [feedB, h3]))
    have H1 := Lib.hid h1
    have H2 := Lib.hid h2
    have H3 := Lib.hid h3
    clear h1 h2 h3
    go_enter Tryd.func18, Tryd.ntmps18
    go_wp2_with (first | (go_at_call 43; (with_reducible refine (l00In_any y _ _ _).mono ?_); rintro e W' ⟨rfl, hb'⟩; rw [H1.out]; have hM' := hM.call hb'; clear hM hb'; have hM := hM'; clear hM') | (go_at_call 44; (with_reducible refine (l04Eats_any e _).mono ?_); rintro e W' ⟨rfl, hb'⟩; rw [H2.out]; have hM' := hM.call hb'; clear hM hb'; have hM := hM'; clear hM') | (go_at_call 45; (with_reducible refine (l04Day_any d _).mono ?_); rintro e W' ⟨rfl, hb'⟩; rw [H3.out]; have hM' := hM.call hb'; clear hM hb'; have hM := hM'; clear hM'))
    refine bodyPost_ret (results_tmp3 rfl _ _ _) rfl ?_
    exact ⟨by rw [Hr.out]; rfl, hM.below⟩
  have b1 := inB_true h1
  have b2 := inB_true h2
  have b3 := inB_true h3
  obtain ⟨n, rfl⟩ : ∃ n : Nat, d = n := ⟨d.toNat, by omega⟩
  have Hr := Lib.hid (feed_ok (y := y) (e := e) (d := n) (by simp [feedB, h1, h2, h3]))
  have H1 := Lib.hid h1
  have H2 := Lib.hid h2
  have H3 := Lib.hid h3
  clear h1 h2 h3
  go_enter Tryd.func18, Tryd.ntmps18
  go_wp2_with (first | (go_at_call 43; (with_reducible refine (l00In_any y _ _ _).mono ?_); rintro e W' ⟨rfl, hb'⟩; rw [H1.out]; have hM' := hM.call hb'; clear hM hb'; have hM := hM'; clear hM') | (go_at_call 44; (with_reducible refine (l04Eats_any e _).mono ?_); rintro e W' ⟨rfl, hb'⟩; rw [H2.out]; have hM' := hM.call hb'; clear hM hb'; have hM := hM'; clear hM') | (go_at_call 45; (with_reducible refine (l04Day_any _ _).mono ?_); rintro e W' ⟨rfl, hb'⟩; rw [H3.out]; have hM' := hM.call hb'; clear hM hb'; have hM := hM'; clear hM'))
  have hB := hM.below
  clear hM
  go_loopw [0, 9, 10] (fun a b i wr => HayIn y e n w a b i wr) (fun _ _ i _ => n - (intOf i).toNat)
  case atStart => exact ⟨0, by omega, rfl, rfl, rfl, hB⟩
  case round =>
    clear hB
    obtain ⟨k, hk, rfl, rfl, rfl, hB⟩ := hrel
    by_cases hlt : k < n
    · have lk : (k : Int) < n := by omega
      have hh := hay_in b1 b2.1 k
      have hn := en_le y e k
      have c1 : IntKind.i64.wrap ((enK y e k : Nat) + 1 : Int) = ((enK y e k : Nat) + 1 : Int) := IntWalk.i64_in _ (by omega)
      have hM := Mem.start (w := Base.of w) hB
      clear hB
      by_cases hc : e ≤ hayK y e k
      · have Hs := Lib.hid (hay_yes hc)
        have c2 : IntKind.i64.wrap (hayK y e k - e) = hayK y e k - e := IntWalk.i64_in _ (by omega)
        have Hm : Hid (minB (hayK y e k) e = e) := Lib.hid (minB_ge (by omega))
        clear hh hn
        go_wp2_with (first | (go_at_call 46; (with_reducible refine (l00Min_any (hayK y e k) e _).mono ?_); rintro e W' ⟨rfl, hb'⟩; rw [Hm.out]; have hM' := hM.call hb'; clear hM hb'; have hM := hM'; clear hM'))
        go_roundw
        case rel => exact (⟨k + 1, by omega, by rw [Hs.out.1], by simp only [Hs.out.2]; first | done | rfl | exact congrArg _ (by omega), by go_num, hM.below⟩ : HayIn y e n w _ _ _ _)
        case measure => simp [intOf]; omega
      · have Hs := Lib.hid (hay_no hc)
        have Hm : Hid (minB (hayK y e k) e = hayK y e k) := Lib.hid (minB_lt (by omega))
        clear hh hn
        go_wp2_with (first | (go_at_call 46; (with_reducible refine (l00Min_any (hayK y e k) e _).mono ?_); rintro e W' ⟨rfl, hb'⟩; rw [Hm.out]; have hM' := hM.call hb'; clear hM hb'; have hM := hM'; clear hM'))
        go_roundw
        case rel => exact (⟨k + 1, by omega, by rw [Hs.out.1], by rw [Hs.out.2], by go_num, hM.below⟩ : HayIn y e n w _ _ _ _)
        case measure => simp [intOf]; omega
    · obtain rfl : k = n := by omega
      go_wp2
      refine bodyPost_ret (results_tmp3 rfl _ _ _) rfl ?_
      exact ⟨by rw [Hr.out]; rfl, hB⟩

set_option maxRecDepth 100000 in
set_option maxHeartbeats 2000000 in
theorem implFeedHay_any {a : Nat → Addr} (y e d : Int) (w : World) (hE : Errs a w) :
    Calls Tryd.prog 19 #[.int .i64 y, .int .i64 e, .int .i64 d] w fun r w' => r = .returned (feedR y e d) ∧ Below w.heap.size w w' := by
  have hM := Mem.nil w
  have HE := Lib.hid hE
  clear hE
  cases hi : feedB y e d
  · have Hr := Lib.hid (feed_no hi)
    have Hc := Lib.hid (cnt3_yes (p := !inB 0 1000000 y) (q := !inB 0 100000 e) (r := !inB 0 365 d) (by unfold feedB at hi; revert hi; cases inB 0 1000000 y <;> cases inB 0 100000 e <;> cases inB 0 365 d <;> decide))
    have Hl := Lib.hid (Nat.le_trans (cntE_le (es3 (!inB 0 1000000 y) (!inB 0 100000 e) (!inB 0 365 d)) 3) (show 3 ≤ 1000 by omega))
    clear hi
    go_enter Tryd.func19, Tryd.ntmps19
    go_wp2_with (first | (go_at_call 47; (with_reducible refine (checkUpTo_any _ _ _ (HE.out.below hM.below)).mono ?_); rintro e W' ⟨rfl, hb'⟩; have hM' := hM.call hb'; clear hM hb'; have hM := hM'; clear hM') | (refine wpList_lit3 rfl _ _ _ _ _ rfl (errO (a 1) (!inB 0 1000000 y)) (errO (a 1) (!inB 0 100000 e)) (errO (a 1) (!inB 0 365 d)) rfl rfl rfl (errO_one _ _) (errO_one _ _) (errO_one _ _) _ errs_under err_info2 hM ?_; intro bn W' hbn hM'; clear hM; have hM := hM'; clear hM') | (go_at_call 41; refine (join_some (a 1) (es3 (!inB 0 1000000 y) (!inB 0 100000 e) (!inB 0 365 d)) _ 3 3 (by omega) Hc.out _ ((hM.ats 0 _ _ _ rfl).congr (lit3_errE _ _ _ _))).mono ?_; rintro e W' ⟨jb, rfl, hJ, hb'⟩; have hM' := hM.call hb'; clear hM hb'; have hM := hM'; clear hM') | (go_at_call 38; (refine (codeJ_1 jb _ Hc.out Hl.out (HE.out.below hM.below) hJ).mono ?_); rintro e W' ⟨rfl, rfl⟩))
    refine bodyPost_ret (results_tmp3 rfl _ _ _) rfl ?_
    exact ⟨by rw [Hr.out]; rfl, hM.below⟩
  have hi' := hi
  unfold feedB at hi
  rw [Bool.and_eq_true, Bool.and_eq_true] at hi
  have b1 := inB_true hi.1.1
  have b2 := inB_true hi.1.2
  have b3 := inB_true hi.2
  obtain ⟨n, rfl⟩ : ∃ n : Nat, d = n := ⟨d.toNat, by omega⟩
  have Hr := Lib.hid (feed_ok hi')
  have H1 := Lib.hid hi.1.1
  have H2 := Lib.hid hi.1.2
  have H3 := Lib.hid hi.2
  clear hi hi'
  go_enter Tryd.func19, Tryd.ntmps19
  go_wp2_with (first | (go_at_call 47; (with_reducible refine (checkUpTo_yes _ _ _ H1.out).mono ?_); rintro e W' ⟨rfl, hb'⟩; have hM' := hM.call hb'; clear hM hb'; have hM := hM'; clear hM') | (go_at_call 47; (with_reducible refine (checkUpTo_yes _ _ _ H2.out).mono ?_); rintro e W' ⟨rfl, hb'⟩; have hM' := hM.call hb'; clear hM hb'; have hM := hM'; clear hM') | (go_at_call 47; (with_reducible refine (checkUpTo_yes _ _ _ H3.out).mono ?_); rintro e W' ⟨rfl, hb'⟩; have hM' := hM.call hb'; clear hM hb'; have hM := hM'; clear hM') | (refine wpList_lit3 rfl _ _ _ _ _ rfl (errO (a 1) false) (errO (a 1) false) (errO (a 1) false) rfl rfl rfl (errO_one _ _) (errO_one _ _) (errO_one _ _) _ errs_under err_info2 hM ?_; intro bn W' hbn hM'; clear hM; have hM := hM'; clear hM') | (go_at_call 41; refine (join_none (a 1) (es3 false false false) _ 3 3 (by omega) cnt3_no _ ((hM.ats 0 _ _ _ rfl).congr (lit3_errE _ _ _ _))).mono ?_; rintro e W' ⟨rfl, hb'⟩; have hM' := hM.call hb'; clear hM hb'; have hM := hM'.drop; clear hM'))
  have hB := hM.below
  clear hM
  go_loopw [0, 10, 24] (fun a b i wr => HayIn y e n w a b i wr) (fun _ _ i _ => n - (intOf i).toNat)
  case atStart => exact ⟨0, by omega, rfl, rfl, rfl, hB⟩
  case round =>
    clear hB
    obtain ⟨k, hk, rfl, rfl, rfl, hB⟩ := hrel
    by_cases hlt : k < n
    · have lk : (k : Int) < n := by omega
      have hh := hay_in b1 b2.1 k
      have hn := en_le y e k
      have c1 : IntKind.i64.wrap ((enK y e k : Nat) + 1 : Int) = ((enK y e k : Nat) + 1 : Int) := IntWalk.i64_in _ (by omega)
      by_cases hc : e ≤ hayK y e k
      · have Hs := Lib.hid (hay_yes hc)
        have c2 : IntKind.i64.wrap (hayK y e k - e) = hayK y e k - e := IntWalk.i64_in _ (by omega)
        by_cases hc2 : e < hayK y e k
        · clear hh hn
          go_wp2
          go_roundw
          case rel => exact (⟨k + 1, by omega, by rw [Hs.out.1], by simp only [Hs.out.2]; first | done | rfl | exact congrArg _ (by omega), by go_num, hB⟩ : HayIn y e n w _ _ _ _)
          case measure => simp [intOf]; omega
        · have hz : Hid (hayK y e k - e = 0) := Lib.hid (by omega)
          clear hh hn
          go_wp2
          go_roundw
          case rel => exact (⟨k + 1, by omega, by rw [Hs.out.1, hz.out], by simp only [Hs.out.2]; first | done | rfl | exact congrArg _ (by omega), by go_num, hB⟩ : HayIn y e n w _ _ _ _)
          case measure => simp [intOf]; omega
      · have Hs := Lib.hid (hay_no hc)
        have hc2 : ¬ e < hayK y e k := by omega
        clear hh hn
        go_wp2
        go_roundw
        case rel => exact (⟨k + 1, by omega, by rw [Hs.out.1], by rw [Hs.out.2], by go_num, hB⟩ : HayIn y e n w _ _ _ _)
        case measure => simp [intOf]; omega
    · obtain rfl : k = n := by omega
      go_wp2
      refine bodyPost_ret (results_tmp3 rfl _ _ _) rfl ?_
      exact ⟨by rw [Hr.out]; rfl, hB⟩

theorem feedR_num (y e d : Int) : ∃ r s c, feedR y e d = num3 r s c := by
  unfold feedR; split <;> exact ⟨_, _, _, rfl⟩

set_option maxRecDepth 100000 in
set_option maxHeartbeats 1000000 in
theorem lawFeedHay_any {a : Nat → Addr} (y e d : Int) (w : World) (hE : Errs a w) :
    Calls Tryd.prog 6 #[.int .i64 y, .int .i64 e, .int .i64 d] w fun e w' => e = .returned (.bool true) ∧ Below w.heap.size w w' := by
  have hM := Mem.nil w
  have HE := Lib.hid hE
  have hS := fun W => specFeedHay_any y e d W
  have hI := fun W hE => implFeedHay_any (a := a) y e d W hE
  obtain ⟨r, s, c, hq⟩ := feedR_num y e d
  rw [hq] at hS hI
  have Hz := Lib.hid (num3_eq r s c)
  have HS := Lib.hid hS
  have HI := Lib.hid hI
  clear hE hS hI hq
  go_enter Tryd.func6, Tryd.ntmps6
  go_wp2_with (first | (go_at_call 18; (with_reducible refine (HS.out _).mono ?_); rintro e W' ⟨rfl, hb'⟩; rw [Hz.out]; have hM' := hM.call hb'; clear hM hb'; have hM := hM'; clear hM') | (go_at_call 19; (with_reducible refine (HI.out _ (HE.out.below hM.below)).mono ?_); rintro e W' ⟨rfl, hb'⟩; rw [Hz.out]; have hM' := hM.call hb'; clear hM hb'; have hM := hM'; clear hM'))
  go_ret
  exact ⟨rfl, hM.below⟩
end Go.Proofs.YtflobpbfpkoghaaDoor

/-
  spec.DaysTo and impl.DaysTo by contracts; laws.FnExactDaysTo returns true.
-/
namespace Go.Proofs.YtflobpbfpkoghaaDoor
open Go Go.RowKit Go.BigFrame

/-- How much a cell has a day later, as a natural number. -/
def stepN (h : Nat → Int) (n : Nat) : Nat := (laterN h n).toNat
theorem stepN_eq {h : Nat → Int} (e : growB h = true) {n : Nat} (hn : n ≤ 1000) : ((stepN h n : Nat) : Int) = laterN h n ∧ stepN h n ≤ 1000 := by
  have := later_in e hn
  unfold stepN
  omega
/-- The days until there is so much, of so many that are left. -/
def goD (h : Nat → Int) (to : Int) : Nat → Nat → Nat → Int × Int
  | 0, _, _ => (0, 6)
  | fuel + 1, d, n => if to ≤ (n : Int) then ((d : Int), 0) else goD h to fuel (d + 1) (stepN h n)
theorem goD_end (h : Nat → Int) (to : Int) (d n : Nat) : goD h to 0 d n = (0, 6) := rfl
theorem goD_yes {h : Nat → Int} {to : Int} {fuel d n : Nat} (hf : 0 < fuel) (e : to ≤ (n : Int)) : goD h to fuel d n = ((d : Int), 0) := by
  obtain ⟨f, rfl⟩ : ∃ f, fuel = f + 1 := ⟨fuel - 1, by omega⟩
  simp [goD, e]
theorem goD_no {h : Nat → Int} {to : Int} {fuel d n : Nat} (hf : 0 < fuel) (e : ¬ to ≤ (n : Int)) : goD h to fuel d n = goD h to (fuel - 1) (d + 1) (stepN h n) := by
  obtain ⟨f, rfl⟩ : ∃ f, fuel = f + 1 := ⟨fuel - 1, by omega⟩
  simp [goD, e]
/-- What DaysTo answers. -/
def dayR (h : Nat → Int) (f t : Int) : Int × Int := if growB h then (if inB 0 1000 f && inB 0 1000 t then goD h t 366 0 f.toNat else (0, 2)) else (0, 1)
theorem day_no {h : Nat → Int} {f t : Int} (e : growB h = false) : dayR h f t = (0, 1) := by simp [dayR, e]
theorem day_out {h : Nat → Int} {f t : Int} (e : growB h = true) (e' : (inB 0 1000 f && inB 0 1000 t) = false) : dayR h f t = (0, 2) := by simp [dayR, e, e']
theorem day_ok {h : Nat → Int} {f : Nat} {t : Int} (e : growB h = true) (e' : (inB 0 1000 (f : Int) && inB 0 1000 t) = true) : dayR h f t = goD h t 366 0 f := by simp [dayR, e, e']
def DayIn (h : Nat → Int) (t : Int) (R : Int × Int) (w : World) (L : Blocks) (from_ i : Value) (wr : World) : Prop :=
  ∃ d n : Nat, d ≤ 366 ∧ n ≤ 1000 ∧ from_ = .int .i64 n ∧ i = .int .i64 d ∧ goD h t (366 - d) d n = R ∧ Mem w L wr

set_option maxRecDepth 100000 in
set_option maxHeartbeats 2000000 in
theorem specDaysTo_any (h : Nat → Int) (hF : FitsW h) (f t : Int) (w : World) :
    Calls Tryd.prog 14 #[.agg (arr 12 (gro h)), .int .i64 f, .int .i64 t] w fun e w' => e = .returned (numR (dayR h f t).1 (dayR h f t).2) ∧ Below w.heap.size w w' := by
  have hM := Mem.nil w
  have HF := Lib.hid hF
  clear hF
  have tk_b1 : True := trivial
  cases hv : growB h
  · have Hr := Lib.hid (day_no (f := f) (t := t) hv)
    have Hv := Lib.hid hv
    clear hv
    go_enter Tryd.func14, Tryd.ntmps14
    go_wp2_with (first | (have _t := tk_b1; refine wpList_box rfl _ _ rfl _ _ rfl hM ?_; intro b1 W' hb1 hM'; clear hM tk_b1; have hM := hM'; clear hM') | (go_at_call 33; (with_reducible refine (l04Ok_any h HF.out b1 _ (hM.ats 0 _ _ _ rfl)).mono ?_); rintro e W' ⟨rfl, hb'⟩; rw [Hv.out]; have hM' := hM.call hb'; clear hM hb'; have hM := hM'; clear hM'))
    go_ret2
    exact ⟨ret_num (by rw [Hr.out]) (by rw [Hr.out]), hM.below⟩
  have Hv := Lib.hid hv
  cases hi : inB 0 1000 f
  · have Hr := Lib.hid (day_out (t := t) hv (by rw [hi]; rfl : (inB 0 1000 f && inB 0 1000 t) = false))
    have Hi := Lib.hid hi
    clear hv hi
    go_enter Tryd.func14, Tryd.ntmps14
    go_wp2_with (first | (have _t := tk_b1; refine wpList_box rfl _ _ rfl _ _ rfl hM ?_; intro b1 W' hb1 hM'; clear hM tk_b1; have hM := hM'; clear hM') | (go_at_call 33; (with_reducible refine (l04Ok_any h HF.out b1 _ (hM.ats 0 _ _ _ rfl)).mono ?_); rintro e W' ⟨rfl, hb'⟩; rw [Hv.out]; have hM' := hM.call hb'; clear hM hb'; have hM := hM'; clear hM') | (go_at_call 34; (with_reducible refine (l01Grass_any f _).mono ?_); rintro e W' ⟨rfl, hb'⟩; rw [Hi.out]; have hM' := hM.call hb'; clear hM hb'; have hM := hM'; clear hM'))
    go_ret2
    exact ⟨ret_num (by rw [Hr.out]) (by rw [Hr.out]), hM.below⟩
  cases hj : inB 0 1000 t
  · have Hr := Lib.hid (day_out (t := t) hv (by rw [hi, hj]; rfl : (inB 0 1000 f && inB 0 1000 t) = false))
    have Hi := Lib.hid hi
    have Hj := Lib.hid hj
    clear hv hi hj
    go_enter Tryd.func14, Tryd.ntmps14
    go_wp2_with (first | (have _t := tk_b1; refine wpList_box rfl _ _ rfl _ _ rfl hM ?_; intro b1 W' hb1 hM'; clear hM tk_b1; have hM := hM'; clear hM') | (go_at_call 33; (with_reducible refine (l04Ok_any h HF.out b1 _ (hM.ats 0 _ _ _ rfl)).mono ?_); rintro e W' ⟨rfl, hb'⟩; rw [Hv.out]; have hM' := hM.call hb'; clear hM hb'; have hM := hM'; clear hM') | (go_at_call 34; (with_reducible refine (l01Grass_any f _).mono ?_); rintro e W' ⟨rfl, hb'⟩; rw [Hi.out]; have hM' := hM.call hb'; clear hM hb'; have hM := hM'; clear hM') | (go_at_call 34; (with_reducible refine (l01Grass_any t _).mono ?_); rintro e W' ⟨rfl, hb'⟩; rw [Hj.out]; have hM' := hM.call hb'; clear hM hb'; have hM := hM'; clear hM'))
    go_ret2
    exact ⟨ret_num (by rw [Hr.out]) (by rw [Hr.out]), hM.below⟩
  have hb := inB_true hi
  obtain ⟨f, rfl⟩ : ∃ m : Nat, f = m := ⟨f.toNat, by omega⟩
  have Hr := Lib.hid (day_ok hv (by rw [hi, hj]; rfl : (inB 0 1000 (f : Int) && inB 0 1000 t) = true))
  have Hi := Lib.hid hi
  have Hj := Lib.hid hj
  clear hv hi hj
  go_enter Tryd.func14, Tryd.ntmps14
  go_wp2_with (first | (have _t := tk_b1; refine wpList_box rfl _ _ rfl _ _ rfl hM ?_; intro b1 W' hb1 hM'; clear hM tk_b1; have hM := hM'; clear hM') | (go_at_call 33; (with_reducible refine (l04Ok_any h HF.out b1 _ (hM.ats 0 _ _ _ rfl)).mono ?_); rintro e W' ⟨rfl, hb'⟩; rw [Hv.out]; have hM' := hM.call hb'; clear hM hb'; have hM := hM'; clear hM') | (go_at_call 34; (with_reducible refine (l01Grass_any _ _).mono ?_); rintro e W' ⟨rfl, hb'⟩; rw [Hi.out]; have hM' := hM.call hb'; clear hM hb'; have hM := hM'; clear hM') | (go_at_call 34; (with_reducible refine (l01Grass_any t _).mono ?_); rintro e W' ⟨rfl, hb'⟩; rw [Hj.out]; have hM' := hM.call hb'; clear hM hb'; have hM := hM'; clear hM'))
  go_loopw [1, 8] (fun n i wr => DayIn h t (goD h t 366 0 f) w [(b1, 12, gro h)] n i wr) (fun _ i _ => 366 - (intOf i).toNat)
  case atStart => exact ⟨0, f, by omega, by omega, rfl, rfl, rfl, hM⟩
  case round =>
    clear hM
    obtain ⟨d, n, hd, hn, rfl, rfl, hg, hM⟩ := hrel
    have Hg := Lib.hid hg
    clear hg
    by_cases hlt : d < 366
    · have ld : (d : Int) ≤ 365 := by omega
      by_cases ht : t ≤ (n : Int)
      · have Hq := Lib.hid (goD_yes (h := h) (d := d) (show 0 < 366 - d by omega) ht)
        go_wp2
        go_ret2
        exact ⟨ret_num (by rw [Hr.out, ← Hg.out, Hq.out]) (by rw [Hr.out, ← Hg.out, Hq.out]), hM.below⟩
      · have Hq := Lib.hid (goD_no (h := h) (d := d) (show 0 < 366 - d by omega) ht)
        have Hs := Lib.hid (stepN_eq Hv.out hn)
        go_wp2_with (first | (go_at_call 35; (with_reducible refine (l04Cell_any h Hv.out b1 n hn _ (hM.ats 0 _ _ _ rfl)).mono ?_); rintro e W' ⟨rfl, hb'⟩; have hM' := hM.call hb'; clear hM hb'; have hM := hM'; clear hM'))
        go_roundw
        case rel => exact (⟨d + 1, stepN h n, by omega, Hs.out.2, by rw [Hs.out.1], by go_num, (by rw [show 366 - (d + 1) = 366 - d - 1 by omega, ← Hq.out]; exact Hg.out), hM⟩ : DayIn h t (goD h t 366 0 f) w _ _ _ _)
        case measure => simp [intOf]; omega
    · obtain rfl : d = 366 := by omega
      go_wp2
      go_ret2
      exact ⟨ret_num (by rw [Hr.out, ← Hg.out, goD_end]) (by rw [Hr.out, ← Hg.out, goD_end]), hM.below⟩

set_option maxRecDepth 100000 in
set_option maxHeartbeats 2000000 in
theorem implDaysTo_any {a : Nat → Addr} (h : Nat → Int) (hF : FitsW h) (f t : Int) (w : World) (hE : Errs a w) :
    Calls Tryd.prog 15 #[.agg (arr 12 (gro h)), .int .i64 f, .int .i64 t] w fun e w' => e = .returned (numR (dayR h f t).1 (dayR h f t).2) ∧ Below w.heap.size w w' := by
  have hM := Mem.nil w
  have HF := Lib.hid hF
  have HE := Lib.hid hE
  clear hF hE
  have tk_b1 : True := trivial; have tk_g1 : True := trivial; have tk_g2 : True := trivial
  cases hv : growB h
  · have Hr := Lib.hid (day_no (f := f) (t := t) hv)
    have Hv := Lib.hid hv
    clear hv
    go_enter Tryd.func15, Tryd.ntmps15
    go_wp2_with (first | (have _t := tk_b1; refine wpList_box rfl _ _ rfl _ _ rfl hM ?_; intro b1 W' hb1 hM'; clear hM tk_b1; have hM := hM'; clear hM') | (refine wpList_get rfl _ _ rfl _ _ rfl hM 0 rfl (rowTab _ _ rfl) (by omega) ?_) | (go_at_call 37; (with_reducible refine (checkGrowth_no h HF.out _ (HE.out.below hM.below) Hv.out).mono ?_); rintro e W' ⟨rfl, hb'⟩; have hM' := hM.call hb'; clear hM hb'; have hM := hM'; clear hM') | (go_at_call 38; (with_reducible refine (codeOf_0 (HE.out.below hM.below)).mono ?_); rintro e W' ⟨rfl, rfl⟩))
    go_ret2
    exact ⟨ret_num (by rw [Hr.out]) (by rw [Hr.out]), hM.below⟩
  have Hv := Lib.hid hv
  cases hi : (inB 0 1000 f && inB 0 1000 t)
  · have Hr := Lib.hid (day_out (t := t) hv hi)
    have Hc := Lib.hid (cnt2_yes (show (!inB 0 1000 f || !inB 0 1000 t) = true by rw [← Bool.not_and, hi]; rfl))
    have Hl := Lib.hid (Nat.le_trans (cntE_le (es2 (!inB 0 1000 f) (!inB 0 1000 t)) 2) (show 2 ≤ 1000 by omega))
    clear hv hi
    go_enter Tryd.func15, Tryd.ntmps15
    go_wp2_with (first | (have _t := tk_b1; refine wpList_box rfl _ _ rfl _ _ rfl hM ?_; intro b1 W' hb1 hM'; clear hM tk_b1; have hM := hM'; clear hM') | (have _t := tk_g1; (refine wpList_get rfl _ _ rfl _ _ rfl hM 0 rfl (rowTab _ _ rfl) (by omega) ?_); clear tk_g1) | (go_at_call 37; (with_reducible refine (checkGrowth_yes h HF.out _ Hv.out).mono ?_); rintro e W' ⟨rfl, hb'⟩; have hM' := hM.call hb'; clear hM hb'; have hM := hM'; clear hM') | (go_at_call 39; (with_reducible refine (checkGrass_any _ _ (HE.out.below hM.below)).mono ?_); rintro e W' ⟨rfl, hb'⟩; have hM' := hM.call hb'; clear hM hb'; have hM := hM'; clear hM') | (refine wpList_lit2 rfl _ _ _ _ rfl (errO (a 1) (!inB 0 1000 f)) (errO (a 1) (!inB 0 1000 t)) rfl rfl (errO_one _ _) (errO_one _ _) _ errs_under err_info2 hM ?_; intro bn W' hbn hM'; clear hM; have hM := hM'; clear hM') | (go_at_call 41; refine (join_some (a 1) (es2 (!inB 0 1000 f) (!inB 0 1000 t)) _ 2 2 (by omega) Hc.out _ ((hM.ats 0 _ _ _ rfl).congr (lit2_errE _ _ _))).mono ?_; rintro e W' ⟨jb, rfl, hJ, hb'⟩; have hM' := hM.call hb'; clear hM hb'; have hM := hM'; clear hM') | (go_at_call 38; (refine (codeJ_1 jb _ Hc.out Hl.out (HE.out.below hM.below) hJ).mono ?_); rintro e W' ⟨rfl, rfl⟩))
    go_ret2
    exact ⟨ret_num (by rw [Hr.out]) (by rw [Hr.out]), hM.below⟩
  have hi' := hi
  rw [Bool.and_eq_true] at hi
  have hb := inB_true hi.1
  obtain ⟨f, rfl⟩ : ∃ m : Nat, f = m := ⟨f.toNat, by omega⟩
  have Hr := Lib.hid (day_ok hv hi')
  have Hi := Lib.hid hi.1
  have Hj := Lib.hid hi.2
  clear hv hi hi'
  go_enter Tryd.func15, Tryd.ntmps15
  go_wp2_with (first | (have _t := tk_b1; refine wpList_box rfl _ _ rfl _ _ rfl hM ?_; intro b1 W' hb1 hM'; clear hM tk_b1; have hM := hM'; clear hM') | (have _t := tk_g1; (refine wpList_get rfl _ _ rfl _ _ rfl hM 0 rfl (rowTab _ _ rfl) (by omega) ?_); clear tk_g1) | (go_at_call 37; (with_reducible refine (checkGrowth_yes h HF.out _ Hv.out).mono ?_); rintro e W' ⟨rfl, hb'⟩; have hM' := hM.call hb'; clear hM hb'; have hM := hM'; clear hM') | (go_at_call 39; (with_reducible refine (checkGrass_yes _ _ Hi.out).mono ?_); rintro e W' ⟨rfl, hb'⟩; have hM' := hM.call hb'; clear hM hb'; have hM := hM'; clear hM') | (go_at_call 39; (with_reducible refine (checkGrass_yes _ _ Hj.out).mono ?_); rintro e W' ⟨rfl, hb'⟩; have hM' := hM.call hb'; clear hM hb'; have hM := hM'; clear hM') | (refine wpList_lit2 rfl _ _ _ _ rfl (errO (a 1) false) (errO (a 1) false) rfl rfl (errO_one _ _) (errO_one _ _) _ errs_under err_info2 hM ?_; intro bn W' hbn hM'; clear hM; have hM := hM'; clear hM') | (go_at_call 41; refine (join_none (a 1) (es2 false false) _ 2 2 (by omega) cnt2_no _ ((hM.ats 0 _ _ _ rfl).congr (lit2_errE _ _ _))).mono ?_; rintro e W' ⟨rfl, hb'⟩; have hM' := hM.call hb'; clear hM hb'; have hM := hM'.drop; clear hM'))
  go_loopw [1, 27] (fun n i wr => DayIn h t (goD h t 366 0 f) w [(b1, 12, gro h)] n i wr) (fun _ i _ => 366 - (intOf i).toNat)
  case atStart => exact ⟨0, f, by omega, by omega, rfl, rfl, rfl, hM⟩
  case round =>
    clear hM
    obtain ⟨d, n, hd, hn, rfl, rfl, hg, hM⟩ := hrel
    have Hg := Lib.hid hg
    clear hg
    by_cases hlt : d < 366
    · have ld : (d : Int) < 366 := by omega
      by_cases ht : t ≤ (n : Int)
      · have Hq := Lib.hid (goD_yes (h := h) (d := d) (show 0 < 366 - d by omega) ht)
        go_wp2
        go_ret2
        exact ⟨ret_num (by rw [Hr.out, ← Hg.out, Hq.out]) (by rw [Hr.out, ← Hg.out, Hq.out]), hM.below⟩
      · have Hq := Lib.hid (goD_no (h := h) (d := d) (show 0 < 366 - d by omega) ht)
        have Hs := Lib.hid (stepN_eq Hv.out hn)
        go_wp2_with (first | (refine wpList_get rfl _ _ rfl _ _ rfl hM 0 rfl (rowTab _ _ rfl) (by omega) ?_) | (go_at_call 40; (with_reducible refine (later_any h Hv.out n hn _).mono ?_); rintro e W' ⟨rfl, hb'⟩; have hM' := hM.call hb'; clear hM hb'; have hM := hM'; clear hM'))
        go_roundw
        case rel => exact (⟨d + 1, stepN h n, by omega, Hs.out.2, by rw [Hs.out.1], by go_num, (by rw [show 366 - (d + 1) = 366 - d - 1 by omega, ← Hq.out]; exact Hg.out), hM⟩ : DayIn h t (goD h t 366 0 f) w _ _ _ _)
        case measure => simp [intOf]; omega
    · obtain rfl : d = 366 := by omega
      go_wp2
      go_ret2
      exact ⟨ret_num (by rw [Hr.out, ← Hg.out, goD_end]) (by rw [Hr.out, ← Hg.out, goD_end]), hM.below⟩

set_option maxRecDepth 100000 in
set_option maxHeartbeats 1000000 in
theorem lawDaysTo_any {a : Nat → Addr} (h : Nat → Int) (hF : FitsW h) (f t : Int) (w : World) (hE : Errs a w) :
    Calls Tryd.prog 4 #[.agg (arr 12 (gro h)), .int .i64 f, .int .i64 t] w fun e w' => e = .returned (.bool true) ∧ Below w.heap.size w w' := by
  have hM := Mem.nil w
  have HE := Lib.hid hE
  have hS := fun W => specDaysTo_any h hF f t W
  have hI := fun W hE => implDaysTo_any (a := a) h hF f t W hE
  generalize dayR h f t = R at hS hI
  obtain ⟨r, s⟩ := R
  have Hz := Lib.hid (numR_eq r s)
  have HS := Lib.hid hS
  have HI := Lib.hid hI
  clear hE hS hI
  have tk_b1 : True := trivial
  go_enter Tryd.func4, Tryd.ntmps4
  go_wp2_with (first | (have _t := tk_b1; refine wpList_box rfl _ _ rfl _ _ rfl hM ?_; intro b1 W' hb1 hM'; clear hM tk_b1; have hM := hM'; clear hM') | (refine wpList_get rfl _ _ rfl _ _ rfl hM 0 rfl (rowTab _ _ rfl) (by omega) ?_) | (go_at_call 12; (with_reducible refine (toGrowth_gro h _).mono ?_); rintro e W' ⟨rfl, hb'⟩; have hM' := hM.call hb'; clear hM hb'; have hM := hM'; clear hM') | (go_at_call 14; (with_reducible refine (HS.out _).mono ?_); rintro e W' ⟨rfl, hb'⟩; rw [Hz.out]; have hM' := hM.call hb'; clear hM hb'; have hM := hM'; clear hM') | (go_at_call 15; (with_reducible refine (HI.out _ (HE.out.below hM.below)).mono ?_); rintro e W' ⟨rfl, hb'⟩; rw [Hz.out]; have hM' := hM.call hb'; clear hM hb'; have hM := hM'; clear hM'))
  go_ret
  exact ⟨rfl, hM.below⟩
end Go.Proofs.YtflobpbfpkoghaaDoor

