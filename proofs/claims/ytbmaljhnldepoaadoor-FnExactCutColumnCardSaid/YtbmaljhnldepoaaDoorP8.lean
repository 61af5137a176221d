/-
  Several texts in one: CutSpec, ThrMore, Reads.
-/
import Derived.Test.YtbmaljhnldepoaaDoorP5
import Derived.Test.YtbmaljhnldepoaaDoorP7
import Derived.Test.YtbmaljhnldepoaaDoorP6
import Derived.Test.YtbmaljhnldepoaaDoorP3
import Derived.StillTail
import Derived.Deep.Quiet
/-
  spec.CutColumn by contract.
-/
namespace Go.Proofs.YtbmaljhnldepoaaDoor
open Go Go.RowKit Go.BigFrame

def absN (x : Int) : Int := if x < 0 then -x else x
theorem ownN_abs (w t a b : Int) : ownN w t a b = absN (w * b - (t - w) * a) := rfl
theorem absN_pos {x : Int} (h : -x < x) : absN x = x := by unfold absN; rw [if_neg (by omega)]
theorem absN_neg {x : Int} (h : ¬ -x < x) : absN x = -x := by unfold absN; split <;> omega
def cutC (g : Nat → Int) (a b : Int) : Int := if okB g = false then 1 else if (inB 0 1000000 a && inB 0 1000000 b) = false then 2 else if a = 0 ∧ b = 0 then 4 else 0
/-- By how much the cut at c is wrong. -/
def cutF (g : Nat → Int) (a b : Int) (c : Nat) : Int := ownN (westN g (g 1).toNat c) (sumN 100 fun k => g (2 + k)) a b
def cutN (g : Nat → Int) (a b : Int) : Int := if cutC g a b = 0 then ((amin (cutF g a b) ((g 0).toNat + 1) : Nat) : Int) else 0

/-- The search's state ahead of the column c. -/
def CutSt (f : Nat → Int) (c : Nat) (best least : Value) : Prop := (c = 0 ∧ best = .int .i64 (-1) ∧ least = .int .i64 0) ∨ (1 ≤ c ∧ best = .int .i64 (amin f c : Nat) ∧ least = .int .i64 (f (amin f c)))

set_option maxRecDepth 100000 in
set_option maxHeartbeats 4000000 in
theorem specCutColumn_any (g : Nat → Int) (hg : Fits g) (a b : Int) (w : World) :
    Calls Tryd.prog 49 #[.agg (arr 122 (pas g)), .int .i64 a, .int .i64 b] w fun e w' => e = .returned (numR (cutN g a b) (cutC g a b)) ∧ Below w.heap.size w w' := by
  have hM := Mem.nil w
  cases ho : okB g
  case false =>
    have hc : cutC g a b = 1 := by simp [cutC, ho]
    have hn : cutN g a b = 0 := by unfold cutN; rw [hc]; rfl
    rw [hc, hn]
    have Ho := Lib.hid ho
    clear hc hn ho
    have tk_b1 : True := trivial
    go_enter Tryd.func49, Tryd.ntmps49
    go_wp2_with (first | (have _t := tk_b1; refine wpList_box rfl _ _ rfl _ _ rfl hM ?_; intro b1 W' hb1 hM'; clear hM tk_b1; have hM := hM'; clear hM') | (go_at_call 59; refine (l01Ok_any g hg _ _ (hM.ats 0 _ _ _ rfl)).mono ?_; rintro e W' ⟨rfl, hb'⟩; rw [Ho.out]; have hM' := hM.call hb'; clear hM hb'; have hM := hM'; clear hM'))
    go_ret2
    exact ⟨ret_num rfl rfl, hM.below⟩
  have Ho := Lib.hid ho
  cases ha : inB 0 1000000 a
  case false =>
    have hc : cutC g a b = 2 := by simp [cutC, ho, ha]
    have hn : cutN g a b = 0 := by unfold cutN; rw [hc]; rfl
    rw [hc, hn]
    have Ha := Lib.hid ha
    clear hc hn ho ha
    have tk_b1 : True := trivial
    go_enter Tryd.func49, Tryd.ntmps49
    go_wp2_with (first | (have _t := tk_b1; refine wpList_box rfl _ _ rfl _ _ rfl hM ?_; intro b1 W' hb1 hM'; clear hM tk_b1; have hM := hM'; clear hM') | (go_at_call 59; refine (l01Ok_any g hg _ _ (hM.ats 0 _ _ _ rfl)).mono ?_; rintro e W' ⟨rfl, hb'⟩; rw [Ho.out]; have hM' := hM.call hb'; clear hM hb'; have hM := hM'; clear hM') | (go_at_call 100; refine (l00In_any a 0 1000000 _).mono ?_; rintro e W' ⟨rfl, hb'⟩; rw [Ha.out]; have hM' := hM.call hb'; clear hM hb'; have hM := hM'; clear hM'))
    go_ret2
    exact ⟨ret_num rfl rfl, hM.below⟩
  have Ha := Lib.hid ha
  cases hb : inB 0 1000000 b
  case false =>
    have hc : cutC g a b = 2 := by simp [cutC, ho, ha, hb]
    have hn : cutN g a b = 0 := by unfold cutN; rw [hc]; rfl
    rw [hc, hn]
    have Hb := Lib.hid hb
    clear hc hn ho ha hb
    have tk_b1 : True := trivial; have tk_i1 : True := trivial; have tk_i2 : True := trivial
    go_enter Tryd.func49, Tryd.ntmps49
    go_wp2_with (first | (have _t := tk_b1; refine wpList_box rfl _ _ rfl _ _ rfl hM ?_; intro b1 W' hb1 hM'; clear hM tk_b1; have hM := hM'; clear hM') | (go_at_call 59; refine (l01Ok_any g hg _ _ (hM.ats 0 _ _ _ rfl)).mono ?_; rintro e W' ⟨rfl, hb'⟩; rw [Ho.out]; have hM' := hM.call hb'; clear hM hb'; have hM := hM'; clear hM') | (have _t := tk_i1; (go_at_call 100; refine (l00In_any a 0 1000000 _).mono ?_; rintro e W' ⟨rfl, hb'⟩; rw [Ha.out]; have hM' := hM.call hb'; clear hM hb'; have hM := hM'; clear hM'); clear tk_i1) | (have _t := tk_i2; (go_at_call 100; refine (l00In_any b 0 1000000 _).mono ?_; rintro e W' ⟨rfl, hb'⟩; rw [Hb.out]; have hM' := hM.call hb'; clear hM hb'; have hM := hM'; clear hM'); clear tk_i2))
    go_ret2
    exact ⟨ret_num rfl rfl, hM.below⟩
  have Hb := Lib.hid hb
  by_cases hz : a = 0 ∧ b = 0
  case pos =>
    obtain ⟨rfl, rfl⟩ := hz
    have hc : cutC g 0 0 = 4 := by simp [cutC, ho, ha]
    have hn : cutN g 0 0 = 0 := by unfold cutN; rw [hc]; rfl
    rw [hc, hn]
    clear hc hn ho ha hb
    have tk_b1 : True := trivial; have tk_i1 : True := trivial; have tk_i2 : True := trivial
    go_enter Tryd.func49, Tryd.ntmps49
    go_wp2_with (first | (have _t := tk_b1; refine wpList_box rfl _ _ rfl _ _ rfl hM ?_; intro b1 W' hb1 hM'; clear hM tk_b1; have hM := hM'; clear hM') | (go_at_call 59; refine (l01Ok_any g hg _ _ (hM.ats 0 _ _ _ rfl)).mono ?_; rintro e W' ⟨rfl, hb'⟩; rw [Ho.out]; have hM' := hM.call hb'; clear hM hb'; have hM := hM'; clear hM') | (have _t := tk_i1; (go_at_call 100; refine (l00In_any 0 0 1000000 _).mono ?_; rintro e W' ⟨rfl, hb'⟩; rw [Ha.out]; have hM' := hM.call hb'; clear hM hb'; have hM := hM'; clear hM'); clear tk_i1) | (have _t := tk_i2; (go_at_call 100; refine (l00In_any 0 0 1000000 _).mono ?_; rintro e W' ⟨rfl, hb'⟩; rw [Hb.out]; have hM' := hM.call hb'; clear hM hb'; have hM := hM'; clear hM'); clear tk_i2))
    go_ret2
    exact ⟨ret_num rfl rfl, hM.below⟩
  have hc : cutC g a b = 0 := by simp [cutC, ho, ha, hb]; omega
  have hn : cutN g a b = ((amin (cutF g a b) ((g 0).toNat + 1) : Nat) : Int) := by unfold cutN; rw [hc]; rfl
  rw [hc, hn]
  have ho' := ho
  unfold okB at ho'
  rw [Bool.and_eq_true, Bool.and_eq_true] at ho'
  have i0 := inB_true ho'.1.1
  have i1 := inB_true ho'.1.2
  have hgr := fun k hk => (ok_grass ho k hk).1
  have ba := inB_true ha
  have bb := inB_true hb
  obtain ⟨W, hW⟩ : ∃ W, (g 0).toNat = W := ⟨_, rfl⟩
  obtain ⟨V, hV⟩ : ∃ V, (g 1).toNat = V := ⟨_, rfl⟩
  have hg0 : g 0 = (W : Int) := by omega
  have hg1 : g 1 = (V : Int) := by omega
  have hfx : ∀ c, cutF g a b c = absN (westN g V c * b - ((sumN 100 fun k => g (2 + k)) - westN g V c) * a) := fun c => by unfold cutF; rw [hV, ownN_abs]
  have hT := sumN_bounds (n := 100) (f := fun k => g (2 + k)) (m := 1000) (by omega) (fun k hk => hgr k hk)
  rw [hW]
  generalize hf : cutF g a b = f at hfx ⊢
  clear hf hc hn ho ha hb ho'
  have HS := fun bp W hA => l01Sum_any g hg hgr bp W hA
  generalize (sumN 100 fun k => g (2 + k)) = T at hT hfx HS
  have HS' := Lib.hid HS
  have Hfx := Lib.hid hfx
  have Hgr := Lib.hid hgr
  clear HS hfx hgr
  have zab : a = 0 → ¬ b = 0 := fun h1 h2 => hz ⟨h1, h2⟩
  have Zab := Lib.hid zab
  clear hz zab
  have key : ∀ X : Prop, (a = 0 → b ≠ 0 → X) → (a ≠ 0 → X) → X := fun X h1 h2 => by
    by_cases h : a = 0
    · exact h1 h (Zab.out h)
    · exact h2 h
  refine key _ ?_ ?_
  case refine_1 =>
    intro ha0 hb0
    have za : (a == 0) = true := by simpa using ha0
    have zda : decide (a = 0) = true := decide_eq_true ha0
    have zb : (b == 0) = false := by simpa using hb0
    have zdb : decide (b = 0) = false := decide_eq_false hb0
    clear key Zab hb0 ha0
    have tk_b1 : True := trivial; have tk_i1 : True := trivial; have tk_i2 : True := trivial
    go_enter Tryd.func49, Tryd.ntmps49
    go_wp2_with (first | (have _t := tk_b1; refine wpList_box rfl _ _ rfl _ _ rfl hM ?_; intro b1 W' hb1 hM'; clear hM tk_b1; have hM := hM'; clear hM') | (go_at_call 59; refine (l01Ok_any g hg _ _ (hM.ats 0 _ _ _ rfl)).mono ?_; rintro e W' ⟨rfl, hb'⟩; rw [Ho.out]; have hM' := hM.call hb'; clear hM hb'; have hM := hM'; clear hM') | (have _t := tk_i1; (go_at_call 100; refine (l00In_any a 0 1000000 _).mono ?_; rintro e W' ⟨rfl, hb'⟩; rw [Ha.out]; have hM' := hM.call hb'; clear hM hb'; have hM := hM'; clear hM'); clear tk_i1) | (have _t := tk_i2; (go_at_call 100; refine (l00In_any b 0 1000000 _).mono ?_; rintro e W' ⟨rfl, hb'⟩; rw [Hb.out]; have hM' := hM.call hb'; clear hM hb'; have hM := hM'; clear hM'); clear tk_i2) | (go_at_call 101; refine (HS'.out _ _ (hM.ats 0 _ _ _ rfl)).mono ?_; rintro e W' ⟨rfl, hb'⟩; have hM' := hM.call hb'; clear hM hb'; have hM := hM'; clear hM'))
    go_loopw [9, 10, 11, 12] (fun v best least i wr => ∃ c : Nat, c ≤ W + 1 ∧ i = .int .i64 c ∧ v = .int .i64 (westN g V (c - 1)) ∧ CutSt f c best least ∧ Mem w [(b1, 122, pas g)] wr) (fun _ _ _ i _ => W + 1 - (intOf i).toNat)
    case atStart => exact ⟨0, by omega, rfl, by rw [westN_zero], .inl ⟨rfl, rfl, rfl⟩, hM⟩
    case round =>
      clear hM
      obtain ⟨c, hc, rfl, rfl, hst, hM⟩ := hrel
      have k0 : wr.cell? ⟨b1, 0, none⟩ = some (.int .i8 (W : Int)) := by rw [← hg0]; exact (hM.ats 0 _ _ _ rfl).cell (k := 0) (by omega)
      have cw : IntKind.i64.wrap (W : Int) = (W : Int) := IntWalk.i64_in _ (by omega)
      by_cases hle : c ≤ W
      case neg =>
        obtain rfl : c = W + 1 := by omega
        rcases hst with ⟨h0, -, -⟩ | ⟨-, rfl, rfl⟩
        · omega
        have d9 : decide (((W + 1 : Nat) : Int) ≤ (W : Int)) = false := decide_eq_false (by omega)
        go_wp2
        go_ret2
        exact ⟨ret_num rfl rfl, hM.below⟩
      have d9 : decide ((c : Int) ≤ (W : Int)) = true := decide_eq_true (by omega)
      have d9' : (c : Int) ≤ (W : Int) := by omega
      have hwb := westN_bounds (g := g) Hgr.out (H := V) (c := c) (by omega) (by omega)
      have m1 := mul_bd hwb bb
      have m2 := mul_bd2 (x := T - westN g V c) (b := a) (by omega) ba
      have w1 : IntKind.i64.wrap (westN g V c * b) = westN g V c * b := IntWalk.i64_in _ (by omega)
      have w2 : IntKind.i64.wrap (T - westN g V c) = T - westN g V c := IntWalk.i64_in _ (by omega)
      have w3 : IntKind.i64.wrap ((T - westN g V c) * a) = (T - westN g V c) * a := IntWalk.i64_in _ (by omega)
      obtain ⟨x, hx⟩ : ∃ x, westN g V c * b - (T - westN g V c) * a = x := ⟨_, rfl⟩
      have w4 : IntKind.i64.wrap (westN g V c * b - (T - westN g V c) * a) = x := by rw [hx]; exact IntWalk.i64_in _ (by omega)
      have w5 : IntKind.i64.wrap (-x) = -x := IntWalk.i64_in _ (by omega)
      have Hx := Lib.hid (show f c = absN x from (Hfx.out c).trans (by rw [hx]))
      clear m1 m2 hx
      by_cases hc0 : c = 0
      case pos =>
        subst hc0
        rcases hst with ⟨-, rfl, rfl⟩ | ⟨h1, -, -⟩
        case inr => omega
        by_cases hs : -x < x
        · have ds : decide (-x < x) = true := decide_eq_true hs
          have hv := Lib.hid (show f 0 = x from Hx.out.trans (absN_pos hs))
          go_wp2
          go_roundw
          case rel => exact ⟨0 + 1, by omega, by go_num, rfl, .inr ⟨by omega, rfl, by rw [amin_one, hv.out]; rfl⟩, hM⟩
          case measure => simp [intOf] <;> omega
        · have ds : decide (-x < x) = false := decide_eq_false hs
          have ds' : x ≤ -x := by omega
          have hv := Lib.hid (show f 0 = -x from Hx.out.trans (absN_neg hs))
          go_wp2
          go_roundw
          case rel => exact ⟨0 + 1, by omega, by go_num, rfl, .inr ⟨by omega, rfl, by rw [amin_one, hv.out]; rfl⟩, hM⟩
          case measure => simp [intOf] <;> omega
      rcases hst with ⟨h0, -, -⟩ | ⟨-, rfl, rfl⟩
      · omega
      have c1 : IntKind.i64.wrap ((c : Int) - 1) = ((c - 1 : Nat) : Int) := by rw [IntWalk.i64_in _ (by omega)]; omega
      have dp : decide (0 < (c : Int)) = true := decide_eq_true (by omega)
      have dp' : 0 < (c : Int) := by omega
      have lx : ((c - 1 : Nat) : Int) < 10 := by omega
      have hw : westN g V (c - 1) + sumN V (fun q => g (2 + q * 10 + (c - 1))) = westN g V c := by
        have := westN_succ g V (c - 1)
        rw [show c - 1 + 1 = c by omega] at this
        exact this.symm
      have hwb1 := westN_bounds (g := g) Hgr.out (H := V) (c := c - 1) (by omega) (by omega)
      go_wp2
      go_loopw [9, 13] (fun v y wr => ∃ k : Nat, k ≤ V ∧ y = .int .i8 k ∧ v = .int .i64 (westN g V (c - 1) + sumN k (fun q => g (2 + q * 10 + (c - 1)))) ∧ Mem w [(b1, 122, pas g)] wr) (fun _ y _ => V - (intOf y).toNat)
      case atStart => exact ⟨0, by omega, rfl, by simp [sumN], hM⟩
      case round =>
        clear k0 hM
        obtain ⟨k, hk, rfl, rfl, hM⟩ := hrel
        have k1 : wr.cell? ⟨b1, 1, none⟩ = some (.int .i8 (V : Int)) := by rw [← hg1]; exact (hM.ats 0 _ _ _ rfl).cell (k := 1) (by omega)
        by_cases hlt : k < V
        · have lk : (k : Int) < V := by omega
          have ly : (k : Int) < 10 := by omega
          have cg : wr.cell? ⟨b1, 2 + k * 10 + (c - 1), none⟩ = some (.int .i16 (g (2 + k * 10 + (c - 1)))) := by rw [← pas_i16 g (by omega) (by omega)]; exact (hM.ats 0 _ _ _ rfl).cell (by omega)
          have hcb := Hgr.out (k * 10 + (c - 1)) (by omega)
          rw [show 2 + (k * 10 + (c - 1)) = 2 + k * 10 + (c - 1) by omega] at hcb
          have hsb := sumN_bounds (n := k) (f := fun q => g (2 + q * 10 + (c - 1))) (m := 1000) (by omega) (fun q hq => by
            have := Hgr.out (q * 10 + (c - 1)) (by omega)
            rwa [show 2 + (q * 10 + (c - 1)) = 2 + q * 10 + (c - 1) by omega] at this)
          have cv : IntKind.i64.wrap (g (2 + k * 10 + (c - 1))) = g (2 + k * 10 + (c - 1)) := IntWalk.i64_in _ (by omega)
          have cs : IntKind.i64.wrap (westN g V (c - 1) + sumN k (fun q => g (2 + q * 10 + (c - 1))) + g (2 + k * 10 + (c - 1))) = westN g V (c - 1) + sumN k (fun q => g (2 + q * 10 + (c - 1))) + g (2 + k * 10 + (c - 1)) := IntWalk.i64_in _ (by omega)
          clear hcb hsb
          go_wp2
          go_roundw
          case rel => exact ⟨k + 1, by omega, by go_num, by rw [sumN, ← Int.add_assoc], hM⟩
          case measure => simp [intOf] <;> omega
        · obtain rfl : k = V := by omega
          rw [hw]
          have am := amin_lt f (show 0 < c by omega)
          have dn : decide (((amin f c : Nat) : Int) < 0) = false := decide_eq_false (by omega)
          have dn' : 0 ≤ ((amin f c : Nat) : Int) := by omega
          by_cases hs : -x < x
          · have ds : decide (-x < x) = true := decide_eq_true hs
            have hv := Hx.out.trans (absN_pos hs)
            have Hv := Lib.hid hv
            clear Hx
            by_cases hq : f c < f (amin f c)
            · have hy := Lib.hid (amin_yes (f := f) (n := c) (by omega) hq)
              rw [hv] at hq
              clear hv
              have dq : decide (x < f (amin f c)) = true := decide_eq_true hq
              go_wp2
              go_roundw
              case rel => exact ⟨c + 1, by omega, by go_num, by rw [Nat.add_sub_cancel], .inr ⟨by omega, by rw [hy.out], by rw [hy.out, Hv.out]; rfl⟩, hM⟩
              case measure => simp [intOf] <;> omega
            · have hy := Lib.hid (amin_no (f := f) (n := c) (by omega) hq)
              rw [hv] at hq
              clear hv
              have dq : decide (x < f (amin f c)) = false := decide_eq_false hq
              have dq' : f (amin f c) ≤ x := by omega
              go_wp2
              go_roundw
              case rel => exact ⟨c + 1, by omega, by go_num, by rw [Nat.add_sub_cancel], .inr ⟨by omega, by rw [hy.out], by rw [hy.out]⟩, hM⟩
              case measure => simp [intOf] <;> omega
          · have ds : decide (-x < x) = false := decide_eq_false hs
            have ds' : x ≤ -x := by omega
            have hv := Hx.out.trans (absN_neg hs)
            have Hv := Lib.hid hv
            clear Hx
            by_cases hq : f c < f (amin f c)
            · have hy := Lib.hid (amin_yes (f := f) (n := c) (by omega) hq)
              rw [hv] at hq
              clear hv
              have dq : decide (-x < f (amin f c)) = true := decide_eq_true hq
              go_wp2
              go_roundw
              case rel => exact ⟨c + 1, by omega, by go_num, by rw [Nat.add_sub_cancel], .inr ⟨by omega, by rw [hy.out], by rw [hy.out, Hv.out]; rfl⟩, hM⟩
              case measure => simp [intOf] <;> omega
            · have hy := Lib.hid (amin_no (f := f) (n := c) (by omega) hq)
              rw [hv] at hq
              clear hv
              have dq : decide (-x < f (amin f c)) = false := decide_eq_false hq
              have dq' : f (amin f c) ≤ -x := by omega
              go_wp2
              go_roundw
              case rel => exact ⟨c + 1, by omega, by go_num, by rw [Nat.add_sub_cancel], .inr ⟨by omega, by rw [hy.out], by rw [hy.out]⟩, hM⟩
              case measure => simp [intOf] <;> omega
  case refine_2 =>
    intro ha0
    have za : (a == 0) = false := by simpa using ha0
    have zda : decide (a = 0) = false := decide_eq_false ha0
    clear key Zab ha0
    have tk_b1 : True := trivial; have tk_i1 : True := trivial; have tk_i2 : True := trivial
    go_enter Tryd.func49, Tryd.ntmps49
    go_wp2_with (first | (have _t := tk_b1; refine wpList_box rfl _ _ rfl _ _ rfl hM ?_; intro b1 W' hb1 hM'; clear hM tk_b1; have hM := hM'; clear hM') | (go_at_call 59; refine (l01Ok_any g hg _ _ (hM.ats 0 _ _ _ rfl)).mono ?_; rintro e W' ⟨rfl, hb'⟩; rw [Ho.out]; have hM' := hM.call hb'; clear hM hb'; have hM := hM'; clear hM') | (have _t := tk_i1; (go_at_call 100; refine (l00In_any a 0 1000000 _).mono ?_; rintro e W' ⟨rfl, hb'⟩; rw [Ha.out]; have hM' := hM.call hb'; clear hM hb'; have hM := hM'; clear hM'); clear tk_i1) | (have _t := tk_i2; (go_at_call 100; refine (l00In_any b 0 1000000 _).mono ?_; rintro e W' ⟨rfl, hb'⟩; rw [Hb.out]; have hM' := hM.call hb'; clear hM hb'; have hM := hM'; clear hM'); clear tk_i2) | (go_at_call 101; refine (HS'.out _ _ (hM.ats 0 _ _ _ rfl)).mono ?_; rintro e W' ⟨rfl, hb'⟩; have hM' := hM.call hb'; clear hM hb'; have hM := hM'; clear hM'))
    go_loopw [9, 10, 11, 12] (fun v best least i wr => ∃ c : Nat, c ≤ W + 1 ∧ i = .int .i64 c ∧ v = .int .i64 (westN g V (c - 1)) ∧ CutSt f c best least ∧ Mem w [(b1, 122, pas g)] wr) (fun _ _ _ i _ => W + 1 - (intOf i).toNat)
    case atStart => exact ⟨0, by omega, rfl, by rw [westN_zero], .inl ⟨rfl, rfl, rfl⟩, hM⟩
    case round =>
      clear hM
      obtain ⟨c, hc, rfl, rfl, hst, hM⟩ := hrel
      have k0 : wr.cell? ⟨b1, 0, none⟩ = some (.int .i8 (W : Int)) := by rw [← hg0]; exact (hM.ats 0 _ _ _ rfl).cell (k := 0) (by omega)
      have cw : IntKind.i64.wrap (W : Int) = (W : Int) := IntWalk.i64_in _ (by omega)
      by_cases hle : c ≤ W
      case neg =>
        obtain rfl : c = W + 1 := by omega
        rcases hst with ⟨h0, -, -⟩ | ⟨-, rfl, rfl⟩
        · omega
        have d9 : decide (((W + 1 : Nat) : Int) ≤ (W : Int)) = false := decide_eq_false (by omega)
        go_wp2
        go_ret2
        exact ⟨ret_num rfl rfl, hM.below⟩
      have d9 : decide ((c : Int) ≤ (W : Int)) = true := decide_eq_true (by omega)
      have d9' : (c : Int) ≤ (W : Int) := by omega
      have hwb := westN_bounds (g := g) Hgr.out (H := V) (c := c) (by omega) (by omega)
      have m1 := mul_bd hwb bb
      have m2 := mul_bd2 (x := T - westN g V c) (b := a) (by omega) ba
      have w1 : IntKind.i64.wrap (westN g V c * b) = westN g V c * b := IntWalk.i64_in _ (by omega)
      have w2 : IntKind.i64.wrap (T - westN g V c) = T - westN g V c := IntWalk.i64_in _ (by omega)
      have w3 : IntKind.i64.wrap ((T - westN g V c) * a) = (T - westN g V c) * a := IntWalk.i64_in _ (by omega)
      obtain ⟨x, hx⟩ : ∃ x, westN g V c * b - (T - westN g V c) * a = x := ⟨_, rfl⟩
      have w4 : IntKind.i64.wrap (westN g V c * b - (T - westN g V c) * a) = x := by rw [hx]; exact IntWalk.i64_in _ (by omega)
      have w5 : IntKind.i64.wrap (-x) = -x := IntWalk.i64_in _ (by omega)
      have Hx := Lib.hid (show f c = absN x from (Hfx.out c).trans (by rw [hx]))
      clear m1 m2 hx
      by_cases hc0 : c = 0
      case pos =>
        subst hc0
        rcases hst with ⟨-, rfl, rfl⟩ | ⟨h1, -, -⟩
        case inr => omega
        by_cases hs : -x < x
        · have ds : decide (-x < x) = true := decide_eq_true hs
          have hv := Lib.hid (show f 0 = x from Hx.out.trans (absN_pos hs))
          go_wp2
          go_roundw
          case rel => exact ⟨0 + 1, by omega, by go_num, rfl, .inr ⟨by omega, rfl, by rw [amin_one, hv.out]; rfl⟩, hM⟩
          case measure => simp [intOf] <;> omega
        · have ds : decide (-x < x) = false := decide_eq_false hs
          have ds' : x ≤ -x := by omega
          have hv := Lib.hid (show f 0 = -x from Hx.out.trans (absN_neg hs))
          go_wp2
          go_roundw
          case rel => exact ⟨0 + 1, by omega, by go_num, rfl, .inr ⟨by omega, rfl, by rw [amin_one, hv.out]; rfl⟩, hM⟩
          case measure => simp [intOf] <;> omega
      rcases hst with ⟨h0, -, -⟩ | ⟨-, rfl, rfl⟩
      · omega
      have c1 : IntKind.i64.wrap ((c : Int) - 1) = ((c - 1 : Nat) : Int) := by rw [IntWalk.i64_in _ (by omega)]; omega
      have dp : decide (0 < (c : Int)) = true := decide_eq_true (by omega)
      have dp' : 0 < (c : Int) := by omega
      have lx : ((c - 1 : Nat) : Int) < 10 := by omega
      have hw : westN g V (c - 1) + sumN V (fun q => g (2 + q * 10 + (c - 1))) = westN g V c := by
        have := westN_succ g V (c - 1)
        rw [show c - 1 + 1 = c by omega] at this
        exact this.symm
      have hwb1 := westN_bounds (g := g) Hgr.out (H := V) (c := c - 1) (by omega) (by omega)
      go_wp2
      go_loopw [9, 13] (fun v y wr => ∃ k : Nat, k ≤ V ∧ y = .int .i8 k ∧ v = .int .i64 (westN g V (c - 1) + sumN k (fun q => g (2 + q * 10 + (c - 1)))) ∧ Mem w [(b1, 122, pas g)] wr) (fun _ y _ => V - (intOf y).toNat)
      case atStart => exact ⟨0, by omega, rfl, by simp [sumN], hM⟩
      case round =>
        clear k0 hM
        obtain ⟨k, hk, rfl, rfl, hM⟩ := hrel
        have k1 : wr.cell? ⟨b1, 1, none⟩ = some (.int .i8 (V : Int)) := by rw [← hg1]; exact (hM.ats 0 _ _ _ rfl).cell (k := 1) (by omega)
        by_cases hlt : k < V
        · have lk : (k : Int) < V := by omega
          have ly : (k : Int) < 10 := by omega
          have cg : wr.cell? ⟨b1, 2 + k * 10 + (c - 1), none⟩ = some (.int .i16 (g (2 + k * 10 + (c - 1)))) := by rw [← pas_i16 g (by omega) (by omega)]; exact (hM.ats 0 _ _ _ rfl).cell (by omega)
          have hcb := Hgr.out (k * 10 + (c - 1)) (by omega)
          rw [show 2 + (k * 10 + (c - 1)) = 2 + k * 10 + (c - 1) by omega] at hcb
          have hsb := sumN_bounds (n := k) (f := fun q => g (2 + q * 10 + (c - 1))) (m := 1000) (by omega) (fun q hq => by
            have := Hgr.out (q * 10 + (c - 1)) (by omega)
            rwa [show 2 + (q * 10 + (c - 1)) = 2 + q * 10 + (c - 1) by omega] at this)
          have cv : IntKind.i64.wrap (g (2 + k * 10 + (c - 1))) = g (2 + k * 10 + (c - 1)) := IntWalk.i64_in _ (by omega)
          have cs : IntKind.i64.wrap (westN g V (c - 1) + sumN k (fun q => g (2 + q * 10 + (c - 1))) + g (2 + k * 10 + (c - 1))) = westN g V (c - 1) + sumN k (fun q => g (2 + q * 10 + (c - 1))) + g (2 + k * 10 + (c - 1)) := IntWalk.i64_in _ (by omega)
          clear hcb hsb
          go_wp2
          go_roundw
          case rel => exact ⟨k + 1, by omega, by go_num, by rw [sumN, ← Int.add_assoc], hM⟩
          case measure => simp [intOf] <;> omega
        · obtain rfl : k = V := by omega
          rw [hw]
          have am := amin_lt f (show 0 < c by omega)
          have dn : decide (((amin f c : Nat) : Int) < 0) = false := decide_eq_false (by omega)
          have dn' : 0 ≤ ((amin f c : Nat) : Int) := by omega
          by_cases hs : -x < x
          · have ds : decide (-x < x) = true := decide_eq_true hs
            have hv := Hx.out.trans (absN_pos hs)
            have Hv := Lib.hid hv
            clear Hx
            by_cases hq : f c < f (amin f c)
            · have hy := Lib.hid (amin_yes (f := f) (n := c) (by omega) hq)
              rw [hv] at hq
              clear hv
              have dq : decide (x < f (amin f c)) = true := decide_eq_true hq
              go_wp2
              go_roundw
              case rel => exact ⟨c + 1, by omega, by go_num, by rw [Nat.add_sub_cancel], .inr ⟨by omega, by rw [hy.out], by rw [hy.out, Hv.out]; rfl⟩, hM⟩
              case measure => simp [intOf] <;> omega
            · have hy := Lib.hid (amin_no (f := f) (n := c) (by omega) hq)
              rw [hv] at hq
              clear hv
              have dq : decide (x < f (amin f c)) = false := decide_eq_false hq
              have dq' : f (amin f c) ≤ x := by omega
              go_wp2
              go_roundw
              case rel => exact ⟨c + 1, by omega, by go_num, by rw [Nat.add_sub_cancel], .inr ⟨by omega, by rw [hy.out], by rw [hy.out]⟩, hM⟩
              case measure => simp [intOf] <;> omega
          · have ds : decide (-x < x) = false := decide_eq_false hs
            have ds' : x ≤ -x := by omega
            have hv := Hx.out.trans (absN_neg hs)
            have Hv := Lib.hid hv
            clear Hx
            by_cases hq : f c < f (amin f c)
            · have hy := Lib.hid (amin_yes (f := f) (n := c) (by omega) hq)
              rw [hv] at hq
              clear hv
              have dq : decide (-x < f (amin f c)) = true := decide_eq_true hq
              go_wp2
              go_roundw
              case rel => exact ⟨c + 1, by omega, by go_num, by rw [Nat.add_sub_cancel], .inr ⟨by omega, by rw [hy.out], by rw [hy.out, Hv.out]; rfl⟩, hM⟩
              case measure => simp [intOf] <;> omega
            · have hy := Lib.hid (amin_no (f := f) (n := c) (by omega) hq)
              rw [hv] at hq
              clear hv
              have dq : decide (-x < f (amin f c)) = false := decide_eq_false hq
              have dq' : f (amin f c) ≤ -x := by omega
              go_wp2
              go_roundw
              case rel => exact ⟨c + 1, by omega, by go_num, by rw [Nat.add_sub_cancel], .inr ⟨by omega, by rw [hy.out], by rw [hy.out]⟩, hM⟩
              case measure => simp [intOf] <;> omega
end Go.Proofs.YtbmaljhnldepoaaDoor

/-
  A call in a drawn region that gives a list: its block, or none.
-/
namespace Go.Proofs.YtbmaljhnldepoaaDoor
open Go Go.RowKit Go.BigFrame

theorem thr_call_more {P : Program} {w : Base} {x L : Blocks} {Q : Exit → Act → World → Prop} {o : Oper} {rest : List Oper} {a : Act} {β : Type} (vb : β → Value) (Bk : β → Blocks) (good : β → Prop) (hg : o.guard = none)
    (h : ∃ fn args, (∀ W, (execOp a.eval o).run P W = .ok (.enter fn args) W) ∧ (∀ W, Mem w (x ++ L) W → Calls P fn args W fun e w' => ∃ y, e = .returned (vb y) ∧ good y ∧ Mem w (Bk y ++ (x ++ L)) w') ∧
    ∀ y, good y → thr P (Mem w L) Q rest (a.put o.dst (vb y)) (Mem w ((Bk y ++ x) ++ L))) : thr P (Mem w L) Q (o :: rest) a (Mem w (x ++ L)) := by
  obtain ⟨fn, args, hr, hc, h⟩ := h
  exact ⟨hg, fun W hW => .inr ⟨fn, args, hr W, (hc W hW).mono fun e w' ⟨y, he, hgood, hM⟩ => ⟨vb y, _, he, kept_mem w L (Bk y ++ x), (by rw [List.append_assoc]; exact hM), h y hgood⟩⟩⟩

/-- A list of n spots: none, or a block with its room and its cells. -/
abbrev LY := Option (Nat × Nat × (Nat → Value))
def vbY (n : Nat) : LY → Value
  | none => .slice none 0 0
  | some (b, c, _) => .slice (some ⟨b, 0, none⟩) n c
def bkY : LY → Blocks
  | none => []
  | some (b, c, F) => [(b, c * 2, F)]
def goodY (n : Nat) (R : Nat → Value) : LY → Prop
  | none => n = 0
  | some (_, c, F) => n ≤ c ∧ ∀ j, j < n * 2 → F j = R j
theorem lst_more {w0 : Base} {K : Blocks} {W : World} {n : Nat} {v : Value} {R : Nat → Value} {W' : World} (hM : Mem w0 K W) (h : Lst W [] 2 v n R W') : ∃ y : LY, v = vbY n y ∧ goodY n R y ∧ Mem w0 (bkY y ++ K) W' := by
  rcases h with ⟨h1, h2, h⟩ | ⟨b, c, F, h1, h2, h3, h4, h⟩
  · exact ⟨none, h1, h2, hM.call h.below⟩
  · exact ⟨some (b, c, F), h1, ⟨h3, h4⟩, Mem.freshH hM h.below h.at0 h2⟩
theorem cellsL_sL (l : List (Nat × Nat)) : cellsL (sL l) l.length = l := by
  refine List.ext_getElem (by simp [cellsL]) fun i h1 h2 => ?_
  simp [cellsL, sL, List.getElem?_eq_getElem h2]
theorem sL_cells {l : List (Nat × Nat)} (h : ∀ s ∈ l, s.1 < 10 ∧ s.2 < 10) : ∀ k, k < l.length → ∃ u v : Nat, u < 10 ∧ v < 10 ∧ sL l k = ((u : Int), (v : Int)) := fun k hk => by
  have := h l[k] (List.getElem_mem hk)
  exact ⟨l[k].1, l[k].2, this.1, this.2, by simp [sL, List.getElem?_eq_getElem hk]⟩
end Go.Proofs.YtbmaljhnldepoaaDoor

/-
  PLAIN LAW: as Mix, with the reads and quiet calls standing anywhere in the region (the places qs), and, behind them, whatever may come up at each step.
-/
namespace Go.Proofs.YtbmaljhnldepoaaDoor
open Go Go.RowKit
variable {P : Program} {ops : Array Oper} {C D : World → Prop}

/-- Operation i comes up: one of the first n is a read, the others are the thread. -/
def mixOpQ (P : Program) (ops : Array Oper) (C : World → Prop) (q : Nat → Bool) (i : Nat) (a : Act) (D : World → Prop) (K : Act → (World → Prop) → Prop) : Prop :=
  ∃ o, ops[i]? = some o ∧ (if q i = true then (if Region.wanted o (yielded ops a.tmps) then qB P o a C (fun a' => K a' D) else K (a.put o.dst undef) D) else o.guard = none ∧ stepT P C o a D K)
def mixQ (P : Program) (ops : Array Oper) (C : World → Prop) (q : Nat → Bool) (Q : Exit → Act → World → Prop) : Nat → Array Bool → Act → (World → Prop) → Prop
  | 0, s, a, D => Region.ready .any ops s = [] ∧ ∀ W, D W → Q .normal a W
  | f + 1, s, a, D => Region.ready .any ops s ≠ [] ∧ ∀ i ∈ Region.ready .any ops s, mixOpQ P ops C q i a D (mixQ P ops C q Q f (s.setIfInBounds i true))

theorem wpOp_of_mixOpQ {q : Nat → Bool} {i : Nat} {a : Act} {W : World} {K : Act → (World → Prop) → Prop} {K' : Act → World → Prop} {Q : Exit → Act → World → Prop} (hD : Kept C D) (hW : D W)
    (h : ∀ a D W, Kept C D → D W → K a D → K' a W) (hh : mixOpQ P ops C q i a D K) : wpOp P ops Q i K' a W := by
  obtain ⟨o, ho, hh⟩ := hh
  unfold wpOp
  simp only [ho]
  by_cases hn : q i = true
  · rw [if_pos hn] at hh
    by_cases hw : Region.wanted o (yielded ops a.tmps) = true
    · rw [if_pos hw] at hh ⊢
      obtain ⟨v, h1, h2⟩ := hh
      have h3 := h1 W (hD.sub W hW)
      refine .inl ?_
      unfold Oper.quietAt at h3
      unfold Oper.wp
      generalize (execOp a.eval o).run P W = r at *
      cases r with
      | ok x w' =>
        cases x <;> simp only [Oper.quietUpon] at h3 <;> simp only [Oper.upon]
        case value => obtain ⟨rfl, rfl⟩ := h3; exact h _ _ _ hD hW h2
        case skip => obtain ⟨rfl, rfl⟩ := h3; exact h _ _ _ hD hW h2
        case enter f args =>
          obtain ⟨rfl, hc⟩ := h3
          exact hc.mono fun e w'' ⟨he, hb⟩ => by subst he; exact h _ _ _ hD (hD.on _ _ hW hb) h2
      | halt x w' => simp only [Oper.quietUpon] at h3
    · rw [if_neg hw] at hh ⊢
      exact h _ _ _ hD hW hh
  · rw [if_neg hn] at hh
    obtain ⟨hg, hs⟩ := hh
    have hw : Region.wanted o (yielded ops a.tmps) = true := by simp [Region.wanted, hg]
    rw [if_pos hw]
    refine .inl ?_
    unfold Oper.wp
    rcases hs W hW with ⟨u, D', W', hr, hk, hd, hK⟩ | ⟨f, args, hr, hc⟩
    · rcases hr with hr | ⟨hr, rfl⟩ <;> rw [hr] <;> exact h _ _ _ hk hd hK
    · rw [hr]
      exact hc.mono fun e w'' ⟨u, D', he, hk, hd, hK⟩ => by subst he; exact h _ _ _ hk hd hK

theorem any_of_mixQ {q : Nat → Bool} {Q : Exit → Act → World → Prop} (f : Nat) : ∀ s a D W, Kept C D → D W → mixQ P ops C q Q f s a D → wpAny P .any ops Q f s a W := by
  induction f with
  | zero => intro s a D W _ hW h; exact ⟨h.1, h.2 W hW⟩
  | succ f ih =>
    intro s a D W hD hW h
    exact ⟨fun e => absurd e h.1, fun i hi => wpOp_of_mixOpQ hD hW (fun a' D' W' hD' hW' h' => ih _ a' D' W' hD' hW' h') (h.2 i hi)⟩

theorem gives.opQ {q : Nat → Bool} {i : Nat} {o : Oper} {v : Value} {a : Act} {K : Act → (World → Prop) → Prop} (hn : q i = true) (ho : ops[i]? = some o) (h : gives P ops C o v a) (hK : K (a.put o.dst v) D) : mixOpQ P ops C q i a D K := by
  refine ⟨o, ho, ?_⟩
  rw [if_pos hn]
  rcases h with ⟨hw, hv⟩ | ⟨hw, rfl⟩
  · rw [if_pos hw]; exact ⟨v, hv, hK⟩
  · rw [if_neg (by rw [hw]; exact Bool.false_ne_true)]; exact hK

theorem mixOpQ_past {q : Nat → Bool} {j : Nat} {oi oj : Oper} {v : Value} {a : Act} {K K' : Act → (World → Prop) → Prop} (hoj : ops[j]? = some oj) (hap : oi.apart ops oj = true) (hsi : ∀ cs b, oi.op ≠ .select cs b) (hsj : ∀ cs b, oj.op ≠ .select cs b)
    (hg : gives P ops C oi v a) (hK : ∀ u D', gives P ops C oi v (a.put oj.dst u) → K ((a.put oj.dst u).put oi.dst v) D' → K' (a.put oj.dst u) D') (h : mixOpQ P ops C q j (a.put oi.dst v) D K) : mixOpQ P ops C q j a D K' := by
  obtain ⟨h1, h2, h3⟩ := Oper.apart_spec hap
  have sw : ∀ u, (a.put oi.dst v).put oj.dst u = (a.put oj.dst u).put oi.dst v := fun u => Act.put_comm a v u h2
  have keep : ∀ u, gives P ops C oi v (a.put oj.dst u) := fun u => hg.other hsi _ u h3
  obtain ⟨o, ho, h⟩ := h
  obtain rfl : oj = o := Option.some.inj (hoj.symm.trans ho)
  refine ⟨oj, hoj, ?_⟩
  by_cases hn : q j = true
  · rw [if_pos hn] at h ⊢
    rw [wanted_put oj a oi.dst v h1] at h
    by_cases hw : Region.wanted oj (yielded ops a.tmps) = true
    · rw [if_pos hw] at h ⊢
      obtain ⟨u, hu, hk⟩ := h
      refine ⟨u, fun W hW => ?_, hK u D (keep u) (by rw [← sw]; exact hk)⟩
      have := hu W hW
      unfold Oper.quietAt at *
      rwa [execOp_put oj hsj a oi.dst v h1] at this
    · rw [if_neg hw] at h ⊢
      exact hK _ D (keep _) (by rw [← sw]; exact h)
  · rw [if_neg hn] at h ⊢
    refine ⟨h.1, fun W hW => ?_⟩
    rcases h.2 W hW with ⟨u, D', W', hr, hk, hd, hh⟩ | ⟨f, args, hr, hc⟩
    · rw [execOp_put oj hsj a oi.dst v h1] at hr
      exact .inl ⟨u, D', W', hr, hk, hd, hK u D' (keep u) (by rw [← sw]; exact hh)⟩
    · rw [execOp_put oj hsj a oi.dst v h1] at hr
      exact .inr ⟨f, args, hr, hc.mono fun e w'' ⟨u, D', he, hk, hd, hh⟩ => ⟨u, D', he, hk, hd, hK u D' (keep u) (by rw [← sw]; exact hh)⟩⟩

theorem mixQ_first {q : Nat → Bool} {i : Nat} {oi : Oper} {v : Value} {Q : Exit → Act → World → Prop} (hin : q i = true) (hoi : ops[i]? = some oi) (hsel : ∀ (j : Nat) (o : Oper) cs b, ops[j]? = some o → o.op ≠ .select cs b) (f : Nat) :
    ∀ s a D, (∀ j oj, ops[j]? = some oj → j ≠ i → s.getD j true = false → (∀ e ∈ oj.after, Region.binds .any e = true → e.on ≠ i) → oi.apart ops oj = true) →
      i ∈ Region.ready .any ops s → gives P ops C oi v a → mixQ P ops C q Q f (s.setIfInBounds i true) (a.put oi.dst v) D → mixQ P ops C q Q (f + 1) s a D := by
  induction f with
  | zero =>
    intro s a D _ hr hg H
    refine ⟨List.ne_nil_of_mem hr, fun j hj => ?_⟩
    by_cases e : j = i
    · subst e; exact hg.opQ hin hoi H
    · have := ready_mono hj e
      rw [H.1] at this; cases this
  | succ f ih =>
    intro s a D hfree hr hg H
    refine ⟨List.ne_nil_of_mem hr, fun j hj => ?_⟩
    by_cases e : j = i
    · subst e; exact hg.opQ hin hoi H
    obtain ⟨hju, oj, hoj, hdone⟩ := mem_ready.1 hj
    have hfj := hfree j oj hoj e hju fun d hd hb he => by
      have h1 := hdone d hd hb
      rw [he, getD_both (mem_ready.1 hr).1] at h1
      cases h1
    refine mixOpQ_past hoj hfj (fun cs b => hsel i oi cs b hoi) (fun cs b => hsel j oj cs b hoj) hg (fun u D' hg' h' => ?_) (H.2 j (ready_mono hj e))
    refine ih _ _ D' (fun k ok hk hki hku hno => hfree k ok hk hki ?_ hno) (ready_mono hr (Ne.symm e)) hg' ?_
    · by_cases ejk : j = k
      · subst ejk; exact hju
      · rwa [getD_set_ne true ejk] at hku
    · rw [Array.setIfInBounds_comm _ _ e]; exact h'


/-- The reads at the places is, one by one. -/
def wpQs (P : Program) (ops : Array Oper) (C : World → Prop) (R : Act → Prop) : List Nat → Act → Prop
  | [], a => R a
  | i :: is, a => ∃ o, ops[i]? = some o ∧ (if Region.wanted o (yielded ops a.tmps) then qB P o a C (wpQs P ops C R is) else wpQs P ops C R is (a.put o.dst undef))
def lexQs (ops : Array Oper) (s1 : Array Bool) : List Nat → Array Bool → Bool
  | [], s => decide (s = s1)
  | i :: is, s => (Region.ready .any ops s).contains i && Region.free .any ops s i && lexQs ops s1 is (s.setIfInBounds i true)

theorem mixQ_reads {q : Nat → Bool} {Q : Exit → Act → World → Prop} {s1 : Array Bool} {g : Nat} (hsel : Region.noSelect ops = true) : ∀ (is : List Nat) (s : Array Bool) (a : Act), (∀ i ∈ is, q i = true) → lexQs ops s1 is s = true →
    wpQs P ops C (fun a' => mixQ P ops C q Q g s1 a' D) is a → mixQ P ops C q Q (is.length + g) s a D
  | [], s, a, _, hB, h => by
    obtain rfl : s = s1 := by simpa [lexQs] using hB
    rw [List.length_nil, Nat.zero_add]
    exact h
  | i :: is, s, a, hq, hB, h => by
    obtain ⟨o, h0, h⟩ := h
    simp only [lexQs, Bool.and_eq_true] at hB
    have hr : i ∈ Region.ready .any ops s := by simpa using hB.1.1
    have hv : ∃ v, gives P ops C o v a ∧ wpQs P ops C (fun a' => mixQ P ops C q Q g s1 a' D) is (a.put o.dst v) := by
      by_cases hw : Region.wanted o (yielded ops a.tmps) = true
      · rw [if_pos hw] at h; obtain ⟨v, h1, h2⟩ := h; exact ⟨v, .inl ⟨hw, h1⟩, h2⟩
      · rw [if_neg hw] at h; exact ⟨undef, .inr ⟨by simpa using hw, rfl⟩, h⟩
    obtain ⟨v, hg, hK⟩ := hv
    rw [List.length_cons, show is.length + 1 + g = (is.length + g) + 1 by omega]
    exact mixQ_first (hq i (by simp)) h0 (Region.noSelect_spec hsel) _ s a D (Region.free_spec h0 hB.1.2) hr hg (mixQ_reads hsel is _ _ (fun j hj => hq j (by simp [hj])) hB.2 hK)

/-- The reads are told by their places; behind them s1 is listed. -/
def readsB (ops : Array Oper) (is : List Nat) (s1 : Array Bool) : Bool := Region.noSelect ops && lexQs ops s1 is (Array.replicate ops.size false)
theorem region_reads {Q : Exit → Act → World → Prop} {a : Act} {w : Base} {W : World} {L : Blocks} {id : Nat} {l : List Oper} (is : List Nat) (s1 : Array Bool) (g : Nat) (hm : P.follows .mixedOrders = true) (hB : readsB l.toArray is s1 = true) (hg : is.length + g = l.length) (hM : Mem w L W)
    (h : wpQs P l.toArray (Mem w L) (fun a' => mixQ P l.toArray (Mem w L) (fun i => is.contains i) Q g s1 a' (Mem w ([] ++ L))) is a) : (Code.region id l.toArray true).wp P Q a W := by
  refine wp_region_any hm ?_
  simp only [readsB, Bool.and_eq_true] at hB
  have := mixQ_reads (q := fun i => is.contains i) (D := Mem w ([] ++ L)) hB.1 is _ a (fun i hi => by simpa using hi) hB.2 h
  have := any_of_mixQ _ _ _ _ W.drew (kept_mem w L []) hM.drew this
  rw [hg] at this
  simpa using this

/-- The same, where the blocks x, ahead of the others, may be written. -/
theorem region_readsX {Q : Exit → Act → World → Prop} {a : Act} {w : Base} {W : World} {L : Blocks} {id : Nat} {l : List Oper} (is : List Nat) (s1 : Array Bool) (g : Nat) (x : Blocks) (hm : P.follows .mixedOrders = true) (hB : readsB l.toArray is s1 = true) (hg : is.length + g = l.length) (hM : Mem w (x ++ L) W)
    (h : wpQs P l.toArray (Mem w L) (fun a' => mixQ P l.toArray (Mem w L) (fun i => is.contains i) Q g s1 a' (Mem w (x ++ L))) is a) : (Code.region id l.toArray true).wp P Q a W := by
  refine wp_region_any hm ?_
  simp only [readsB, Bool.and_eq_true] at hB
  have := mixQ_reads (q := fun i => is.contains i) (D := Mem w (x ++ L)) hB.1 is _ a (fun i hi => by simpa using hi) hB.2 h
  have := any_of_mixQ _ _ _ _ W.drew (kept_mem w L x) hM.drew this
  rw [hg] at this
  simpa using this

/-- The same, where more places qs hold reads that are taken later. -/
theorem region_readsG {Q : Exit → Act → World → Prop} {a : Act} {w : Base} {W : World} {L : Blocks} {id : Nat} {l : List Oper} (is qs : List Nat) (s1 : Array Bool) (g : Nat) (hq : ∀ i ∈ is, qs.contains i = true) (hm : P.follows .mixedOrders = true) (hB : readsB l.toArray is s1 = true) (hg : is.length + g = l.length) (hM : Mem w L W)
    (h : wpQs P l.toArray (Mem w L) (fun a' => mixQ P l.toArray (Mem w L) (fun i => qs.contains i) Q g s1 a' (Mem w ([] ++ L))) is a) : (Code.region id l.toArray true).wp P Q a W := by
  refine wp_region_any hm ?_
  simp only [readsB, Bool.and_eq_true] at hB
  have := mixQ_reads (q := fun i => qs.contains i) (D := Mem w ([] ++ L)) hB.1 is _ a hq hB.2 h
  have := any_of_mixQ _ _ _ _ W.drew (kept_mem w L []) hM.drew this
  rw [hg] at this
  simpa using this

/-! ### What may come up -/
variable {q : Nat → Bool} {Q : Exit → Act → World → Prop} {s : Array Bool} {a : Act} {f : Nat} {l : List Oper}
theorem at_list {i : Nat} {o : Oper} (h : l[i]? = some o) : l.toArray[i]? = some o := by simpa using h
theorem mix_end (hr : Region.ready .any ops s = []) (h : ∀ W, D W → Q .normal a W) : mixQ P ops C q Q 0 s a D := ⟨hr, h⟩
theorem mix_one {i : Nat} {o : Oper} (hr : Region.ready .any l.toArray s = [i]) (ho : l[i]? = some o) (hq : q i = false) (hg : o.guard = none) (h : stepT P C o a D (mixQ P l.toArray C q Q f (s.setIfInBounds i true))) : mixQ P l.toArray C q Q (f + 1) s a D := by
  refine ⟨by rw [hr]; simp, fun j hj => ?_⟩
  rw [hr] at hj
  obtain rfl : j = i := by simpa using hj
  exact ⟨o, at_list ho, by rw [if_neg (by rw [hq]; decide)]; exact ⟨hg, h⟩⟩
theorem mix_two {i j : Nat} {o o' : Oper} (hr : Region.ready .any l.toArray s = [i, j]) (ho : l[i]? = some o) (ho' : l[j]? = some o') (hq : q i = false) (hq' : q j = false) (hg : o.guard = none) (hg' : o'.guard = none)
    (h : stepT P C o a D (mixQ P l.toArray C q Q f (s.setIfInBounds i true))) (h' : stepT P C o' a D (mixQ P l.toArray C q Q f (s.setIfInBounds j true))) : mixQ P l.toArray C q Q (f + 1) s a D := by
  refine ⟨by rw [hr]; simp, fun k hk => ?_⟩
  rw [hr] at hk
  have : k = i ∨ k = j := by simpa using hk
  rcases this with rfl | rfl
  · exact ⟨o, at_list ho, by rw [if_neg (by rw [hq]; decide)]; exact ⟨hg, h⟩⟩
  · exact ⟨o', at_list ho', by rw [if_neg (by rw [hq']; decide)]; exact ⟨hg', h'⟩⟩
/-- A read at the place i. -/
theorem qs_plain {i : Nat} {is : List Nat} {o : Oper} {R : Act → Prop} (ho : l[i]? = some o) (hg : o.guard = none) (h : qB P o a C (wpQs P l.toArray C R is)) : wpQs P l.toArray C R (i :: is) a :=
  ⟨o, at_list ho, by rw [if_pos (by simp [Region.wanted, hg])]; exact h⟩
theorem qs_nil {R : Act → Prop} (h : R a) : wpQs P ops C R [] a := h

/-! ### The steps -/
variable {o : Oper} {w : Base} {L x : Blocks} {K : Act → (World → Prop) → Prop}
theorem step_val (h : ∃ v, (∀ W, (execOp a.eval o).run P W = .ok (.value v) W) ∧ K (a.put o.dst v) (Mem w (x ++ L))) : stepT P (Mem w L) o a (Mem w (x ++ L)) K := by
  obtain ⟨v, hr, h⟩ := h
  exact fun W hW => .inl ⟨v, _, W, .inl (hr W), kept_mem w L x, hW, h⟩
theorem step_zero (ty : TypeId) (ho : o.op = .alloc ty) {n : Nat} {f : Nat → Value} (hz : (P.info? ty).map (·.zero) = some (some (.agg (arr n f))))
    (h : ∀ b, w.B ≤ b → K (a.put o.dst (.pointer (some ⟨b, 0, none⟩))) (Mem w (((b, n, f) :: x) ++ L))) : stepT P (Mem w L) o a (Mem w (x ++ L)) K := by
  refine fun W hW => .inl ⟨_, _, _, .inl ?_, kept_mem w L ((W.heap.size, n, f) :: x), hW.alloc ty n f, h _ hW.size⟩
  have hzv : (zeroValue ty).run P W = .ok (.agg (arr n f)) W := by
    cases hq : P.info? ty with
    | none => simp [hq] at hz
    | some i => simp [hq] at hz; simp [zeroValue, typeInfo, hq, hz]
  unfold execOp
  simp only [ho, Instr.alloc, Sem.run_bind, Sem.run_pure, Result.andThen_ok, hzv, newVar, newRow, newObj, Sem.run, Value.cells]
  rfl
theorem step_lay (ty : TypeId) (y z : Operand) (ho : o.op = .store ty y z) (b off : Nat) (hx : a.eval y = .pointer (some ⟨b, off, none⟩))
    (m : Nat) (g : Nat → Value) (hy : a.eval z = .agg (arr m g)) (i : Nat) {n : Nat} {f : Nat → Value} (hi : x[i]? = some (b, n, f)) (hb : w.B ≤ b)
    (hT : RowT P ty m) (hle : off + m ≤ n) (h1 : ∀ k, k < m → (g k).oneCell' = true)
    (h : K (a.put o.dst undef) (Mem w ((x.set i (b, n, lay f off m g)) ++ L))) : stepT P (Mem w L) o a (Mem w (x ++ L)) K := by
  obtain ⟨_, hm⟩ := hT
  have hil : i < x.length := (List.getElem?_eq_some_iff.1 hi).1
  have hi' : (x ++ L)[i]? = some (b, n, f) := by rw [List.getElem?_append_left hil]; exact hi
  intro W hW
  obtain ⟨t, ht⟩ := hW.ats i b n f hi'
  have hs := run_storeCells_at (P := P) b off t (arr m g).toList 0 (arr n f) W ht (by simp [arr_size]; omega) (fun v hv => by
    rw [arr_toList] at hv; simp at hv; obtain ⟨k, hk, rfl⟩ := hv; exact h1 k hk)
  rw [Nat.add_zero, arr_lay hle] at hs
  have hsz : (sizeOf ty).run P W = .ok m W := by
    cases hq : P.info? ty with
    | none => simp [hq] at hm
    | some i => simp [hq] at hm; simp [sizeOf, typeInfo, hq, hm]
  have hset := hW.setRow i hi' hb (lay f off m g)
  rw [List.set_append_left _ _ hil] at hset
  refine .inl ⟨undef, _, _, .inr ⟨?_, rfl⟩, kept_mem w L _, hset, h⟩
  unfold execOp
  simp only [ho, hx, hy, Instr.storeAt, Instr.sureAddr, storeVar, Sem.run_bind, Sem.run_pure, Result.andThen_ok, Value.cells, hsz, arr_size, ne_eq, not_true_eq_false, if_false, hs]

/-- A call that lets lie all that lay. -/
theorem step_call (h : ∃ f args v, (∀ W, (execOp a.eval o).run P W = .ok (.enter f args) W) ∧ (∀ W, Mem w (x ++ L) W → Calls P f args W fun e w' => e = .returned v ∧ Below W.heap.size W w') ∧ K (a.put o.dst v) (Mem w (x ++ L))) : stepT P (Mem w L) o a (Mem w (x ++ L)) K := by
  obtain ⟨f, args, v, hr, hc, h⟩ := h
  exact fun W hW => .inr ⟨f, args, hr W, (hc W hW).mono fun e w' ⟨he, hb⟩ => ⟨v, _, he, kept_mem w L x, hW.call hb, h⟩⟩
/-- A call that hands back what holds a new block. -/
theorem step_call_new {n : Nat} {f : Nat → Value} (vb : Nat → Value) (h : ∃ fn args, (∀ W, (execOp a.eval o).run P W = .ok (.enter fn args) W) ∧ (∀ W, Mem w (x ++ L) W → Calls P fn args W fun e w' => ∃ b, e = .returned (vb b) ∧ W.heap.size ≤ b ∧ At w' b n f ∧ Below W.heap.size W w') ∧
    ∀ b, w.B ≤ b → K (a.put o.dst (vb b)) (Mem w (((b, n, f) :: x) ++ L))) : stepT P (Mem w L) o a (Mem w (x ++ L)) K := by
  obtain ⟨fn, args, hr, hc, h⟩ := h
  refine fun W hW => .inr ⟨fn, args, hr W, (hc W hW).mono fun e w' ⟨b, he, hge, hA, hb⟩ => ⟨vb b, _, he, kept_mem w L ((b, n, f) :: x), ?_, h b (Nat.le_trans hW.size hge)⟩⟩
  have hW' := hW.call hb
  refine ⟨hW'.good, fun i b' n' f' hi => ?_, fun i j p p' hi hj hne => ?_⟩
  · cases i with
    | zero => simp at hi; obtain ⟨rfl, rfl, rfl⟩ := hi; exact hA
    | succ i => exact hW'.ats i b' n' f' (by simpa using hi)
  · have off : ∀ (i : Nat) (p : Nat × Nat × (Nat → Value)), (x ++ L)[i]? = some p → p.1 ≠ b := fun i p h e => by
      have := (hW.ats i p.1 p.2.1 p.2.2 h).lt
      omega
    cases i with
    | zero =>
      cases j with
      | zero => exact absurd rfl hne
      | succ j => simp at hi; rw [← hi]; exact fun e => off j p' (by simpa using hj) e.symm
    | succ i =>
      cases j with
      | zero => simp at hj; rw [← hj]; exact off i p (by simpa using hi)
      | succ j => exact hW'.apart i j p p' (by simpa using hi) (by simpa using hj) (by omega)
/-- A call that hands back what holds more blocks. -/
theorem step_call_more {β : Type} (vb : β → Value) (Bk : β → Blocks) (good : β → Prop) (h : ∃ fn args, (∀ W, (execOp a.eval o).run P W = .ok (.enter fn args) W) ∧ (∀ W, Mem w (x ++ L) W → Calls P fn args W fun e w' => ∃ y, e = .returned (vb y) ∧ good y ∧ Mem w (Bk y ++ (x ++ L)) w') ∧
    ∀ y, good y → K (a.put o.dst (vb y)) (Mem w ((Bk y ++ x) ++ L))) : stepT P (Mem w L) o a (Mem w (x ++ L)) K := by
  obtain ⟨fn, args, hr, hc, h⟩ := h
  exact fun W hW => .inr ⟨fn, args, hr W, (hc W hW).mono fun e w' ⟨y, he, hg, hM⟩ => ⟨vb y, _, he, kept_mem w L (Bk y ++ x), (by rw [List.append_assoc]; exact hM), h y hg⟩⟩
end Go.Proofs.YtbmaljhnldepoaaDoor

