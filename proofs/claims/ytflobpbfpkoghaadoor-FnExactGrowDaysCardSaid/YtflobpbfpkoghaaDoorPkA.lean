/-
  Several texts in one: GrowT, GrowSpec, GrowD, Tend, Growing, Live, GrowDaysI, GrowDays, GrowOnce.
-/
import Derived.Test.YtflobpbfpkoghaaDoorPkC
import Derived.Test.YtflobpbfpkoghaaDoorSum
import Derived.Test.YtflobpbfpkoghaaDoorResults
import Derived.Test.YtflobpbfpkoghaaDoorHead
import Derived.Test.YtflobpbfpkoghaaDoorPasture
import Derived.Test.YtflobpbfpkoghaaDoorReads
import Derived.Test.YtflobpbfpkoghaaDoorPkB
import Derived.Test.YtflobpbfpkoghaaDoorSeqL
import Derived.Test.YtflobpbfpkoghaaDoorCells0
/-
  A pasture whose cells grow, one after the other and day by day.
-/
namespace Go.Proofs.YtflobpbfpkoghaaDoor
open Go Go.RowKit

/-- p when its first i cells have grown by a day; W: how wide it is. -/
def growT (h p : Nat → Int) (W i : Nat) : Nat → Int := fun q => if (2 ≤ q ∧ q < 102 ∧ (q - 2) % 10 < W) ∧ (q - 2) / 10 * W + (q - 2) % 10 < i then laterN h (p q).toNat else p q
theorem growT_zero (h p : Nat → Int) (W : Nat) : growT h p W 0 = p := by
  funext q; unfold growT; rw [if_neg (fun h => by omega)]
theorem growT_at (h p : Nat → Int) (W k j : Nat) (hj : j < W) (hW : W ≤ 10) (hk : k < 10) : growT h p W (k * W + j) (2 + k * 10 + j) = p (2 + k * 10 + j) := by
  unfold growT
  have e1 : (2 + k * 10 + j - 2) % 10 = j := by omega
  have e2 : (2 + k * 10 + j - 2) / 10 = k := by omega
  rw [if_neg (fun h => by rw [e1, e2] at h; omega)]
def setP (g : Nat → Int) (k : Nat) (n : Int) : Nat → Int := fun j => if j = k then n else g j
theorem growT_succ (h p : Nat → Int) (W k j : Nat) (hj : j < W) (hW : W ≤ 10) (hk : k < 10) : setP (growT h p W (k * W + j)) (2 + k * 10 + j) (laterN h (p (2 + k * 10 + j)).toNat) = growT h p W (k * W + j + 1) := by
  funext q
  unfold setP growT
  by_cases e : q = 2 + k * 10 + j
  · subst e
    have e1 : (2 + k * 10 + j - 2) % 10 = j := by omega
    have e2 : (2 + k * 10 + j - 2) / 10 = k := by omega
    rw [if_pos rfl, if_pos ⟨⟨by omega, by omega, by omega⟩, by rw [e1, e2]; omega⟩]
  · rw [if_neg e]
    by_cases h2 : 2 ≤ q ∧ q < 102 ∧ (q - 2) % 10 < W
    · have hne : (q - 2) / 10 * W + (q - 2) % 10 ≠ k * W + j := fun h => by
        have a1 : ((q - 2) / 10 * W + (q - 2) % 10) / W = (q - 2) / 10 := by
          rw [Nat.mul_comm, Nat.mul_add_div (by omega), Nat.div_eq_of_lt h2.2.2]; omega
        have a2 : (k * W + j) / W = k := by
          rw [Nat.mul_comm, Nat.mul_add_div (by omega), Nat.div_eq_of_lt hj]; omega
        rw [h, a2] at a1
        rw [← a1] at h
        omega
      by_cases h3 : (q - 2) / 10 * W + (q - 2) % 10 < k * W + j
      · rw [if_pos ⟨h2, h3⟩, if_pos ⟨h2, by omega⟩]
      · rw [if_neg (fun x => h3 x.2), if_neg (fun x => by have := x.2; omega)]
    · rw [if_neg (fun x => h2 x.1), if_neg (fun x => h2 x.1)]
theorem growT_head (h p : Nat → Int) (W i q : Nat) (hq : q < 2) : growT h p W i q = p q := by
  unfold growT; rw [if_neg (fun h => by omega)]

/-- All grass is as it may be. -/
def GrassOk (p : Nat → Int) : Prop := ∀ k, k < 100 → 0 ≤ p (2 + k) ∧ p (2 + k) ≤ 1000
theorem GrassOk.at {p : Nat → Int} (h : GrassOk p) {k j : Nat} (hk : k < 10) (hj : j < 10) : 0 ≤ p (2 + k * 10 + j) ∧ p (2 + k * 10 + j) ≤ 1000 := by
  have := h (k * 10 + j) (by omega)
  rwa [← Nat.add_assoc] at this
theorem growT_in {h p : Nat → Int} (e : growB h = true) (hp : GrassOk p) (W i : Nat) : GrassOk (growT h p W i) := fun k hk => by
  have h1 := hp k hk
  unfold growT
  split
  · have := later_in e (n := (p (2 + k)).toNat) (by omega)
    omega
  · exact h1
theorem growT_fits {h p : Nat → Int} (e : growB h = true) (hp : GrassOk p) (hf : Fits p) (W i : Nat) : Fits (growT h p W i) := by
  obtain ⟨f1, f2, f3, f4⟩ := hf
  refine ⟨by rw [growT_head _ _ _ _ _ (by omega)]; exact f1, by rw [growT_head _ _ _ _ _ (by omega)]; exact f2, fun k hk hk' => ?_, fun k hk hk' => ?_⟩
  · have := growT_in e hp W i (k - 2) (by omega)
    rw [show 2 + (k - 2) = k by omega] at this
    omega
  · unfold growT
    rw [if_neg (fun x => by omega)]
    exact f4 k hk hk'

/-! ### Sums -/
def gsum (g : Nat → Int) : Int := sumN 100 (fun k => g (2 + k))
theorem gsum_in {p : Nat → Int} (hp : GrassOk p) : 0 ≤ gsum p ∧ gsum p ≤ 100000 := by
  have := sumN_bounds (n := 100) (f := fun k => p (2 + k)) (m := 1000) (by omega) hp
  unfold gsum; omega
theorem sumN_set (f : Nat → Int) (n : Int) (c : Nat) : ∀ m, sumN m (fun k => if k = c then n else f k) = sumN m f + (if c < m then n - f c else 0)
  | 0 => by simp [sumN]
  | m + 1 => by
    rw [sumN, sumN, sumN_set f n c m]
    by_cases e : m = c
    · subst e; simp; omega
    · rw [if_neg e]
      by_cases h : c < m
      · rw [if_pos h, if_pos (by omega)]; omega
      · rw [if_neg h, if_neg (by omega)]; omega
theorem gsum_set (g : Nat → Int) (c : Nat) (hc : c < 100) (n : Int) : gsum (setP g (2 + c) n) = gsum g + (n - g (2 + c)) := by
  unfold gsum
  have : (fun k => setP g (2 + c) n (2 + k)) = fun k => if k = c then n else (fun k => g (2 + k)) k := by
    funext k
    unfold setP
    by_cases e : k = c
    · simp [e]
    · rw [if_neg (by omega), if_neg e]
  rw [this, sumN_set, if_pos hc]
theorem gsum_succ (h p : Nat → Int) (W k j : Nat) (hj : j < W) (hW : W ≤ 10) (hk : k < 10) : gsum (growT h p W (k * W + j + 1)) = gsum (growT h p W (k * W + j)) + (laterN h (p (2 + k * 10 + j)).toNat - p (2 + k * 10 + j)) := by
  rw [← growT_succ h p W k j hj hW hk]
  have e : 2 + k * 10 + j = 2 + (k * 10 + j) := by omega
  rw [e, gsum_set _ _ (by omega), ← e, growT_at h p W k j hj hW hk]

/-- The pasture behind d days. -/
def dayG (h p : Nat → Int) (W H : Nat) : Nat → Nat → Int
  | 0 => p
  | d + 1 => growT h (dayG h p W H d) W (W * H)
theorem dayG_in {h p : Nat → Int} (e : growB h = true) (hp : GrassOk p) (W H : Nat) : ∀ d, GrassOk (dayG h p W H d)
  | 0 => hp
  | d + 1 => growT_in e (dayG_in e hp W H d) W _
theorem dayG_fits {h p : Nat → Int} (e : growB h = true) (hp : GrassOk p) (hf : Fits p) (W H : Nat) : ∀ d, Fits (dayG h p W H d)
  | 0 => hf
  | d + 1 => growT_fits e (dayG_in e hp W H d) (dayG_fits e hp hf W H d) W _
theorem dayG_head (h p : Nat → Int) (W H q : Nat) (hq : q < 2) : ∀ d, dayG h p W H d q = p q
  | 0 => rfl
  | d + 1 => by rw [dayG, growT_head _ _ _ _ _ hq, dayG_head h p W H q hq d]
/-- How much grows on day d. -/
def yieldD (h p : Nat → Int) (W H d : Nat) : Int := gsum (dayG h p W H (d + 1)) - gsum (dayG h p W H d)
theorem yield_sum (h p : Nat → Int) (W H : Nat) : ∀ n, sumN n (yieldD h p W H) = gsum (dayG h p W H n) - gsum p
  | 0 => by simp [sumN, dayG]
  | n + 1 => by rw [sumN, yield_sum h p W H n, yieldD]; omega

theorem upd_pas (g : Nat → Int) (k : Nat) (n : Int) (h : 2 ≤ k) (h' : k < 102) : upd (pas g) k (.int .i16 n) = pas (setP g k n) := by
  funext j
  unfold upd pas setP
  by_cases e : j = k
  · subst e; simp [kd_i16 h h']
  · simp [e]
theorem ok_sizes2 {g : Nat → Int} (ho : okB g = true) : ∃ W H : Nat, g 0 = W ∧ g 1 = H ∧ (1 ≤ W ∧ W ≤ 10) ∧ (1 ≤ H ∧ H ≤ 10) := by
  unfold okB at ho
  rw [Bool.and_eq_true, Bool.and_eq_true] at ho
  have b0 := inB_true ho.1.1
  have b1 := inB_true ho.1.2
  exact ⟨(g 0).toNat, (g 1).toNat, by omega, by omega, by omega, by omega⟩
theorem ok_in {g : Nat → Int} (ho : okB g = true) : GrassOk g := fun k hk => (ok_grass ho k hk).1
end Go.Proofs.YtflobpbfpkoghaaDoor

/-
  spec.l01Mask of no cells, spec.l04Grow, l04Days, l04Asked, GrowDays and GrowOnce by contracts.
-/
namespace Go.Proofs.YtflobpbfpkoghaaDoor
open Go Go.RowKit Go.BigFrame

/-- Three results, the first in memory. -/
theorem results_at3 {P : Program} {fn : Func} {p q r : Tmp} {ty : TypeId} (h : fn.results = #[.cell p ty, .tmp q, .tmp r]) (tmps : Array Value) {W : World} {b n : Nat} {f : Nat → Value}
    (hp : tmps.getD p undef = .pointer (some ⟨b, 0, none⟩)) (hg : At W b n f) (hT : RowT P ty n) :
    (results fn tmps).run P W = .ok (.tuple #[.agg (arr n f), tmps.getD q undef, tmps.getD r undef]) W := by
  have e : (asAddr (.pointer (some ⟨b, 0, none⟩))).run P W = .ok ⟨b, 0, none⟩ W := rfl
  have e2 := loadVar_at hg hT
  rw [Array.getD_eq_getD_getElem?] at hp
  simp [results, h, hp, e, e2]

def fls : Nat → Value := fun _ => .bool false
theorem build_mask (W : World) : (Instr.build 124 #[]).run Tryd.prog W = .ok (.agg (arr 100 fls)) W := by kernel_rfl
theorem wpList_buildM {ops : Array Oper} {rest : List Oper} {o : Oper} {a : Act} {W : World} {Q : Exit → Act → World → Prop} (hgd : o.guard = none) (ho : o.op = .build 124 #[])
    (h : wpList Tryd.prog ops Q rest (a.put o.dst (.agg (arr 100 fls))) W) : wpList Tryd.prog ops Q (o :: rest) a W := by
  refine wpList_plain hgd fun K hK => ?_
  unfold Oper.wp execOp
  simp only [ho, Array.map_empty, Sem.run_bind, Sem.run_pure, build_mask, Result.andThen_ok]
  exact hK _ _ h
theorem lay_fls (f : Nat → Value) : ∀ k, k < 100 → lay f 0 100 fls k = fls k := fun k hk => by simp [lay, hk, fls]
theorem lay_fls0 (f g : Nat → Value) : ∀ k, k < 100 → lay f 0 100 (fun j => lay g 0 100 fls (0 + j)) k = fls k := fun k hk => by simp [lay, hk, fls]

set_option maxRecDepth 100000 in
set_option maxHeartbeats 1000000 in
theorem l01Mask_nil (w : World) :
    Calls Tryd.prog 77 #[.slice none 0 0] w fun e w' => e = .returned (.agg (arr 100 fls)) ∧ Below w.heap.size w w' := by
  have hM := Mem.nil w
  have tk_b1 : True := trivial; have tk_b2 : True := trivial; have tk_q1 : True := trivial
  go_enter Tryd.func77, Tryd.ntmps77
  go_wp2_with (first | (have _t := tk_b1; refine wpList_zero rfl _ rfl (zeroTab _ _ _ rfl) hM ?_; intro b1 W' hb1 hM'; clear hM tk_b1; have hM := hM'; clear hM') | (refine wpList_buildM rfl rfl ?_) | (have _t := tk_b2; refine wpList_zero rfl _ rfl (zeroTab _ _ _ rfl) hM ?_; intro b2 W' hb2 hM'; clear hM tk_b2; have hM := hM'; clear hM') | (have _t := tk_q1; (refine wpList_lay rfl _ _ _ rfl _ _ rfl _ _ rfl hM 0 rfl (by assumption) (rowTab _ _ rfl) (by omega) ?_ ?_; (first | (intro _ _; rfl) | (intro k _; exact h1 _) | (intro k _; simp only [lay, upd]; (repeat' split) <;> first | exact h1 _ | rfl)); intro W' hM'; clear hM; have hM := hM'; clear hM'; simp only [List.set] at hM); clear tk_q1))
  refine wp_loop_rounds 1 ?_
  rw [rounds_succ]
  go_wp2_with (first | (refine wpList_get rfl _ _ rfl _ _ rfl hM 0 rfl (rowTab _ _ rfl) (by omega) ?_) | (refine wpList_lay rfl _ _ _ rfl _ _ rfl _ _ rfl hM 1 rfl (by assumption) (rowTab _ _ rfl) (by omega) ?_ ?_; (first | (intro _ _; rfl) | (intro k _; exact h1 _) | (intro k _; simp only [lay, upd]; (repeat' split) <;> first | exact h1 _ | rfl)); intro W' hM'; clear hM; have hM := hM'; clear hM'; simp only [List.set] at hM))
  exact bodyPost_ret (results_at rfl _ rfl ((hM.ats 1 _ _ _ rfl).congr (lay_fls0 _ _)) (rowTab _ _ rfl)) rfl ⟨rfl, hM.below⟩
theorem lay_pasz (f : Nat → Value) (g : Nat → Int) : ∀ k, k < 122 → lay f 0 122 (fun j => pas g (0 + j)) k = pas g k := fun k hk => by simp [lay, hk]
theorem lay_pasy (f : Nat → Value) (g : Nat → Int) : ∀ k, k < 122 → lay f 0 122 (pas g) k = pas g k := fun k hk => by simp [lay, hk]

set_option maxRecDepth 100000 in
set_option maxHeartbeats 4000000 in
theorem l04Grow_any (h p : Nat → Int) (e : growB h = true) (hp : GrassOk p) (W H : Nat) (hW : 1 ≤ W ∧ W ≤ 10) (hH : 1 ≤ H ∧ H ≤ 10) (p0 : p 0 = W) (p1 : p 1 = H) (bg : Nat) (w : World) (hA : At w bg 12 (gro h)) :
    Calls Tryd.prog 56 #[.agg (arr 122 (pas p)), .pointer (some ⟨bg, 0, none⟩), .slice none 0 0] w fun e w' => e = .returned (.agg (arr 122 (pas (growT h p W (W * H))))) ∧ Below w.heap.size w w' := by
  have hM : Mem w [(bg, 12, gro h)] w := (Mem.nil w).old hA (fun i p h => by simp at h)
  have Hp := Lib.hid hp
  have He := Lib.hid e
  clear hA hp e
  have tk_b1 : True := trivial; have tk_b2 : True := trivial; have tk_b3 : True := trivial; have tk_q1 : True := trivial
  go_enter Tryd.func56, Tryd.ntmps56
  go_wp2_with (first | (have _t := tk_b1; refine wpList_box rfl _ _ rfl _ _ rfl hM ?_; intro b1 W' hb1 hM'; clear hM tk_b1; have hM := hM'; clear hM') | (have _t := tk_b2; refine wpList_zero rfl _ rfl (zeroTab _ _ _ rfl) hM ?_; intro b2 W' hb2 hM'; clear hM tk_b2; have hM := hM'; clear hM') | (go_at_call 77; (with_reducible refine (l01Mask_nil _).mono ?_); rintro e W' ⟨rfl, hb'⟩; have hM' := hM.call hb'; clear hM hb'; have hM := hM'; clear hM') | (have _t := tk_b3; refine wpList_zero rfl _ rfl (zeroTab _ _ _ rfl) hM ?_; intro b3 W' hb3 hM'; clear hM tk_b3; have hM := hM'; clear hM') | (have _t := tk_q1; (refine wpList_lay rfl _ _ _ rfl _ _ rfl _ _ rfl hM 0 rfl (by assumption) (rowTab _ _ rfl) (by omega) ?_ ?_; (first | (intro _ _; rfl) | (intro k _; exact h1 _) | (intro k _; simp only [lay, upd]; (repeat' split) <;> first | exact h1 _ | rfl)); intro W' hM'; clear hM; have hM := hM'; clear hM'; simp only [List.set] at hM); clear tk_q1))
  have hM0 := hM.re 0 rfl fls (lay_fls _)
  simp only [List.set_cons_zero] at hM0
  clear hM
  have hM := hM0
  clear hM0
  rw [← growT_zero h p W] at hM
  have hz : growT h p W (0 * W) = growT h p W 0 := by rw [Nat.zero_mul]
  rw [← hz] at hM
  go_loopw [8] (fun y wr => ∃ k : Nat, k ≤ H ∧ y = .int .i8 k ∧ Mem w [(b3, 100, fls), (b2, 122, zP), (b1, 122, pas (growT h p W (k * W))), (bg, 12, gro h)] wr) (fun y _ => H - (intOf y).toNat)
  case atStart => exact ⟨0, by omega, rfl, hM⟩
  case round =>
    clear hM hz
    obtain ⟨k, hk, rfl, hM⟩ := hrel
    have e1 : pas (growT h p W (k * W)) 1 = .int .i8 (H : Int) := by rw [← p1, ← growT_head h p W (k * W) 1 (by omega)]; rfl
    by_cases hlt : k < H
    · have lk : (k : Int) < H := by omega
      go_wp2_with (first | (refine wpList_get1 rfl _ _ rfl _ _ rfl hM 2 rfl (cellTab _ rfl) (by omega) _ e1 ?_))
      have hz : growT h p W (k * W + 0) = growT h p W (k * W) := by rw [Nat.add_zero]
      rw [← hz] at hM
      go_loopw [9] (fun x wr => ∃ j : Nat, j ≤ W ∧ x = .int .i8 j ∧ Mem w [(b3, 100, fls), (b2, 122, zP), (b1, 122, pas (growT h p W (k * W + j))), (bg, 12, gro h)] wr) (fun x _ => W - (intOf x).toNat)
      case atStart => exact ⟨0, by omega, rfl, hM⟩
      case round =>
        clear hM hz e1
        obtain ⟨j, hj, rfl, hM⟩ := hrel
        have e0 : pas (growT h p W (k * W + j)) 0 = .int .i8 (W : Int) := by rw [← p0, ← growT_head h p W (k * W + j) 0 (by omega)]; rfl
        by_cases hjl : j < W
        · have lj : (j : Int) < W := by omega
          have lj' : (j : Int) < 10 := by omega
          have lk' : (k : Int) < 10 := by omega
          have hr := Hp.out.at (k := k) (j := j) (by omega) (by omega)
          have ep := pas_i16 (growT h p W (k * W + j)) (k := 2 + k * 10 + j) (by omega) (by omega)
          rw [growT_at h p W k j hjl hW.2 (by omega)] at ep
          have hs := growT_succ h p W k j hjl hW.2 (by omega)
          obtain ⟨n, hn⟩ : ∃ n : Nat, p (2 + k * 10 + j) = n := ⟨(p (2 + k * 10 + j)).toNat, by omega⟩
          rw [hn] at ep hr hs
          have hl := later_in He.out (n := n) (by omega)
          rw [Int.toNat_natCast] at hs
          have Hs := Lib.hid hs
          have c0 : IntKind.i64.wrap (n : Int) = n := IntWalk.i64_in _ (by omega)
          have c1 : IntKind.i16.wrap (laterN h n) = laterN h n := IntWalk.i16_in _ (by omega)
          have hn1 : n ≤ 1000 := by omega
          have ef : fls (k * 10 + j) = .bool false := rfl
          clear hl hr hs hn
          go_wp2_with (first | (refine wpList_get1 rfl _ _ rfl _ _ rfl hM 2 rfl (cellTab _ rfl) (by omega) _ e0 ?_) | (refine wpList_get1 rfl _ _ rfl _ _ rfl hM 0 rfl (cellTab _ rfl) (by omega) _ (by first | exact ef | rfl) ?_))
          ((try simp only [Act.put, List.setIfInBounds_toArray, List.set_cons_succ, List.set_cons_zero]); refine region_head_mem (m := 15) (by kernel_rfl) (by kernel_rfl) hM ?_; clear hM; simp only [List.take_succ_cons, List.take_zero, List.drop_succ_cons, List.drop_zero]; (repeat (first | go_big_quiet_skip | (go_big_quiet_want; first | (refine quiet_get1 _ _ rfl _ _ rfl 2 rfl (cellTab _ rfl) (by omega) _ (ep) ?_; (simp only [Act.put, List.setIfInBounds_toArray, List.set_cons_succ, List.set_cons_zero]); go_big_quiet_on) | (refine quiet_call ?_; apply Exists.intro; apply Exists.intro; apply Exists.intro; refine ⟨fun W => ?_, fun W hM => ?_, ?_⟩; (go_simp; exact ⟨rfl, rfl⟩); (with_reducible exact l04Cell_any h He.out bg n hn1 W (hM.ats 3 _ _ _ rfl)); (simp only [Act.put, List.setIfInBounds_toArray, List.set_cons_succ, List.set_cons_zero]); go_big_quiet_on) | (refine quiet_val ?_; apply Exists.intro; refine ⟨fun W => ?_, ?_⟩; (go_simp; (try simp only [lj', lk', c0, c1, if_true, Bool.false_eq_true, if_false]); rfl); (simp only [Act.put, List.setIfInBounds_toArray, List.set_cons_succ, List.set_cons_zero]); go_big_quiet_on)))); (with_reducible refine wpQuiet_nil ?_); intro W' hM)
          go_wp2_with (first | (refine wpList_set1 rfl _ _ _ rfl _ _ rfl _ rfl ?_ hM 2 rfl (by assumption) (cellTab _ rfl) (by omega) ?_; (first | rfl | exact h1 _); intro W' hM'; clear hM; have hM := hM'; clear hM'; simp [List.set, Act.eval] at hM))
          rw [upd_pas _ _ _ (by omega) (by omega), Hs.out] at hM
          go_roundw
          case rel => exact ⟨j + 1, by omega, by go_num, hM⟩
          case measure => simp [intOf]; omega
        · obtain rfl : j = W := by omega
          have e3 : k * j + j = (k + 1) * j := by rw [Nat.add_mul, Nat.one_mul]
          rw [e3] at hM
          rw [e3] at e0
          clear e3
          go_wp2_with (first | (refine wpList_get1 rfl _ _ rfl _ _ rfl hM 2 rfl (cellTab _ rfl) (by omega) _ e0 ?_))
          go_roundw
          case rel => exact ⟨k + 1, by omega, by go_num, hM⟩
          case measure => simp [intOf]; omega
    · obtain rfl : k = H := by omega
      rw [Nat.mul_comm] at hM e1
      go_wp2_with (first | (refine wpList_get1 rfl _ _ rfl _ _ rfl hM 2 rfl (cellTab _ rfl) (by omega) _ e1 ?_) | (refine wpList_get rfl _ _ rfl _ _ rfl hM 2 rfl (rowTab _ _ rfl) (by omega) ?_) | (refine wpList_lay rfl _ _ _ rfl _ _ rfl _ _ rfl hM 1 rfl (by assumption) (rowTab _ _ rfl) (by omega) ?_ ?_; (first | (intro _ _; rfl) | (intro k _; exact h1 _) | (intro k _; simp only [lay, upd]; (repeat' split) <;> first | exact h1 _ | rfl)); intro W' hM'; clear hM; have hM := hM'; clear hM'; simp only [List.set] at hM))
      exact bodyPost_ret (results_at rfl _ rfl ((hM.ats 1 _ _ _ rfl).congr (lay_pasz _ _)) (rowTab _ _ rfl)) rfl ⟨rfl, hM.below⟩

set_option maxRecDepth 100000 in
set_option maxHeartbeats 1000000 in
theorem l04Days_any (h p : Nat → Int) (e : growB h = true) (hp : GrassOk p) (W H : Nat) (hW : 1 ≤ W ∧ W ≤ 10) (hH : 1 ≤ H ∧ H ≤ 10) (p0 : p 0 = W) (p1 : p 1 = H) (bg n : Nat) (hn : n ≤ 365) (w : World) (hA : At w bg 12 (gro h)) :
    Calls Tryd.prog 59 #[.agg (arr 122 (pas p)), .pointer (some ⟨bg, 0, none⟩), .int .i64 n] w fun e w' => e = .returned (.agg (arr 122 (pas (dayG h p W H n)))) ∧ Below w.heap.size w w' := by
  have hM : Mem w [(bg, 12, gro h)] w := (Mem.nil w).old hA (fun i p h => by simp at h)
  have Hp := Lib.hid hp
  have He := Lib.hid e
  clear hA hp e
  have tk_b1 : True := trivial; have tk_b2 : True := trivial
  go_enter Tryd.func59, Tryd.ntmps59
  go_wp2_with (first | (have _t := tk_b1; refine wpList_box rfl _ _ rfl _ _ rfl hM ?_; intro b1 W' hb1 hM'; clear hM tk_b1; have hM := hM'; clear hM') | (have _t := tk_b2; refine wpList_zero rfl _ rfl (zeroTab _ _ _ rfl) hM ?_; intro b2 W' hb2 hM'; clear hM tk_b2; have hM := hM'; clear hM'))
  go_loopw [7] (fun d wr => ∃ k : Nat, k ≤ n ∧ d = .int .i64 k ∧ Mem w [(b2, 122, zP), (b1, 122, pas (dayG h p W H k)), (bg, 12, gro h)] wr) (fun d _ => n - (intOf d).toNat)
  case atStart => exact ⟨0, by omega, rfl, hM⟩
  case round =>
    clear hM
    obtain ⟨k, hk, rfl, hM⟩ := hrel
    by_cases hlt : k < n
    · have lk : (k : Int) < n := by omega
      have hq := dayG_in He.out Hp.out W H k
      have q0 : dayG h p W H k 0 = W := by rw [dayG_head h p W H 0 (by omega)]; exact p0
      have q1 : dayG h p W H k 1 = H := by rw [dayG_head h p W H 1 (by omega)]; exact p1
      have Hs : Hid (growT h (dayG h p W H k) W (W * H) = dayG h p W H (k + 1)) := Lib.hid rfl
      generalize dayG h p W H k = D at *
      have Hq := Lib.hid hq
      clear hq
      go_wp2_with (first | (refine wpList_get rfl _ _ rfl _ _ rfl hM 1 rfl (rowTab _ _ rfl) (by omega) ?_) | (go_at_call 56; (with_reducible refine (l04Grow_any h D He.out Hq.out W H hW hH q0 q1 bg _ (hM.ats 2 _ _ _ rfl)).mono ?_); rintro e W' ⟨rfl, hb'⟩; have hM' := hM.call hb'; clear hM hb'; have hM := hM'; clear hM') | (refine wpList_lay rfl _ _ _ rfl _ _ rfl _ _ rfl hM 1 rfl (by assumption) (rowTab _ _ rfl) (by omega) ?_ ?_; (first | (intro _ _; rfl) | (intro k _; exact h1 _) | (intro k _; simp only [lay, upd]; (repeat' split) <;> first | exact h1 _ | rfl)); intro W' hM'; clear hM; have hM := hM'; clear hM'; simp only [List.set] at hM))
      have hM2 := hM.re 1 rfl (pas (dayG h p W H (k + 1))) (fun q hq => by rw [lay_pasy _ _ q hq, Hs.out])
      simp only [List.set] at hM2
      go_roundw
      case rel => exact ⟨k + 1, by omega, by go_num, hM2⟩
      case measure => simp [intOf]; omega
    · obtain rfl : k = n := by omega
      go_wp2_with (first | (refine wpList_get rfl _ _ rfl _ _ rfl hM 1 rfl (rowTab _ _ rfl) (by omega) ?_) | (refine wpList_lay rfl _ _ _ rfl _ _ rfl _ _ rfl hM 0 rfl (by assumption) (rowTab _ _ rfl) (by omega) ?_ ?_; (first | (intro _ _; rfl) | (intro k _; exact h1 _) | (intro k _; simp only [lay, upd]; (repeat' split) <;> first | exact h1 _ | rfl)); intro W' hM'; clear hM; have hM := hM'; clear hM'; simp only [List.set] at hM))
      exact bodyPost_ret (results_at rfl _ rfl ((hM.ats 0 _ _ _ rfl).congr (lay_pasz _ _)) (rowTab _ _ rfl)) rfl ⟨rfl, hM.below⟩

/-- The code of a pasture and a growth. -/
def askG (p h : Nat → Int) : Int := if okB p && growB h then 0 else 1
theorem askG_no {p h : Nat → Int} (e : (okB p && growB h) = false) : askG p h = 1 := by simp [askG, e]
theorem askG_yes {p h : Nat → Int} (e : (okB p && growB h) = true) : askG p h = 0 := by simp [askG, e]
set_option maxRecDepth 100000 in
set_option maxHeartbeats 1000000 in
theorem l04Asked_any (p : Nat → Int) (hp : Fits p) (h : Nat → Int) (hF : FitsW h) (bp bg : Nat) (w : World) (hA : At w bp 122 (pas p)) (hB : At w bg 12 (gro h)) (hne : bp ≠ bg) :
    Calls Tryd.prog 55 #[.pointer (some ⟨bp, 0, none⟩), .pointer (some ⟨bg, 0, none⟩)] w fun e w' => e = .returned (.int .i64 (askG p h)) ∧ Below w.heap.size w w' := by
  have hM0 : Mem w [(bp, 122, pas p)] w := (Mem.nil w).old hA (fun i p h => by simp at h)
  have hM := hM0.old hB (fun i x hi e => by
    match i, hi with
    | 0, hi => simp at hi; rw [← hi] at e; exact hne e
    | i + 1, hi => simp at hi)
  simp only [List.cons_append, List.nil_append] at hM
  have HF := Lib.hid hF
  clear hA hB hM0 hF
  cases h1 : okB p
  · have Hr : Hid (askG p h = 1) := Lib.hid (askG_no (by rw [h1]; rfl))
    have H1 := Lib.hid h1
    clear h1
    go_enter Tryd.func55, Tryd.ntmps55
    go_wp2_with (first | (go_at_call 48; (with_reducible refine (l01Ok_any p hp bp _ (hM.ats 0 _ _ _ rfl)).mono ?_); rintro e W' ⟨rfl, hb'⟩; rw [H1.out]; have hM' := hM.call hb'; clear hM hb'; have hM := hM'; clear hM'))
    go_ret
    exact ⟨by rw [Hr.out]; rfl, hM.below⟩
  cases h2 : growB h
  · have Hr : Hid (askG p h = 1) := Lib.hid (askG_no (by rw [h1, h2]; rfl))
    have H1 := Lib.hid h1
    have H2 := Lib.hid h2
    clear h1 h2
    go_enter Tryd.func55, Tryd.ntmps55
    go_wp2_with (first | (go_at_call 48; (with_reducible refine (l01Ok_any p hp bp _ (hM.ats 0 _ _ _ rfl)).mono ?_); rintro e W' ⟨rfl, hb'⟩; rw [H1.out]; have hM' := hM.call hb'; clear hM hb'; have hM := hM'; clear hM') | (go_at_call 33; (with_reducible refine (l04Ok_any h HF.out bg _ (hM.ats 1 _ _ _ rfl)).mono ?_); rintro e W' ⟨rfl, hb'⟩; rw [H2.out]; have hM' := hM.call hb'; clear hM hb'; have hM := hM'; clear hM'))
    go_ret
    exact ⟨by rw [Hr.out]; rfl, hM.below⟩
  · have Hr : Hid (askG p h = 0) := Lib.hid (askG_yes (by rw [h1, h2]; rfl))
    have H1 := Lib.hid h1
    have H2 := Lib.hid h2
    clear h1 h2
    go_enter Tryd.func55, Tryd.ntmps55
    go_wp2_with (first | (go_at_call 48; (with_reducible refine (l01Ok_any p hp bp _ (hM.ats 0 _ _ _ rfl)).mono ?_); rintro e W' ⟨rfl, hb'⟩; rw [H1.out]; have hM' := hM.call hb'; clear hM hb'; have hM := hM'; clear hM') | (go_at_call 33; (with_reducible refine (l04Ok_any h HF.out bg _ (hM.ats 1 _ _ _ rfl)).mono ?_); rintro e W' ⟨rfl, hb'⟩; rw [H2.out]; have hM' := hM.call hb'; clear hM hb'; have hM := hM'; clear hM'))
    go_ret
    exact ⟨by rw [Hr.out]; rfl, hM.below⟩
end Go.Proofs.YtflobpbfpkoghaaDoor

/-
  spec.GrowDays and spec.GrowOnce by contracts.
-/
namespace Go.Proofs.YtflobpbfpkoghaaDoor
open Go Go.RowKit Go.BigFrame

/-- A pasture and two numbers. -/
def pasR3 (g : Nat → Int) (n c : Int) : Value := .tuple #[.agg (arr 122 (pas g)), .int .i64 n, .int .i64 c]
theorem pasR3_eq (g : Nat → Int) (n c : Int) : pasR3 g n c = .tuple #[.agg (arr 122 (pas g)), .int .i64 n, .int .i64 c] := rfl
theorem ret_pas3 {g : Nat → Int} {n c : Int} {v : Value} (h : v = pasR3 g n c) : Ending.returned (.tuple #[.agg (arr 122 (pas g)), .int .i64 n, .int .i64 c]) = .returned v := by rw [h, pasR3_eq]
/-- What GrowDays answers. -/
def growD (p h : Nat → Int) (n : Int) : Value :=
  if okB p && growB h then (if inB 0 365 n then pasR3 (dayG h p (p 0).toNat (p 1).toNat n.toNat) (gsum (dayG h p (p 0).toNat (p 1).toNat n.toNat) - gsum p) 0 else pasR3 g0 0 2) else pasR3 g0 0 1
theorem growD_no {p h : Nat → Int} {n : Int} (e : (okB p && growB h) = false) : growD p h n = pasR3 g0 0 1 := by simp [growD, e]
theorem growD_out {p h : Nat → Int} {n : Int} (e : (okB p && growB h) = true) (e' : inB 0 365 n = false) : growD p h n = pasR3 g0 0 2 := by simp [growD, e, e']
theorem growD_ok {p h : Nat → Int} {n W H : Nat} (e : (okB p && growB h) = true) (e' : inB 0 365 (n : Int) = true) (p0 : p 0 = W) (p1 : p 1 = H) : growD p h n = pasR3 (dayG h p W H n) (gsum (dayG h p W H n) - gsum p) 0 := by simp [growD, e, e', p0, p1]
theorem l01Sum_g (g : Nat → Int) (hg : Fits g) (hb : GrassOk g) (bp : Nat) (w : World) (hA : At w bp 122 (pas g)) :
    Calls Tryd.prog 49 #[.pointer (some ⟨bp, 0, none⟩)] w fun e w' => e = .returned (.int .i64 (gsum g)) ∧ Below w.heap.size w w' := l01Sum_any g hg hb bp w hA

set_option maxRecDepth 100000 in
set_option maxHeartbeats 2000000 in
theorem specGrowDays_any (p : Nat → Int) (hp : Fits p) (h : Nat → Int) (hF : FitsW h) (n : Int) (w : World) :
    Calls Tryd.prog 26 #[.agg (arr 122 (pas p)), .agg (arr 12 (gro h)), .int .i64 n] w fun e w' => e = .returned (growD p h n) ∧ Below w.heap.size w w' := by
  have hM := Mem.nil w
  have HP := Lib.hid hp
  have HF := Lib.hid hF
  clear hp hF
  have tk_b1 : True := trivial; have tk_b2 : True := trivial; have tk_b3 : True := trivial; have tk_q1 : True := trivial
  cases ho : (okB p && growB h)
  · have Hr := Lib.hid (growD_no (n := n) ho)
    have Hc := Lib.hid (askG_no ho)
    clear ho
    go_enter Tryd.func26, Tryd.ntmps26
    go_wp2_with (first | (have _t := tk_b1; refine wpList_box rfl _ _ rfl _ _ rfl hM ?_; intro b1 W' hb1 hM'; clear hM tk_b1; have hM := hM'; clear hM') | (have _t := tk_b2; refine wpList_box rfl _ _ rfl _ _ rfl hM ?_; intro b2 W' hb2 hM'; clear hM tk_b2; have hM := hM'; clear hM') | (have _t := tk_b3; refine wpList_zero rfl _ rfl (zeroTab _ _ _ rfl) hM ?_; intro b3 W' hb3 hM'; clear hM tk_b3; have hM := hM'; clear hM') | (go_at_call 55; (with_reducible refine (l04Asked_any p HP.out h HF.out b1 b2 _ (hM.ats 2 _ _ _ rfl) (hM.ats 1 _ _ _ rfl) (hM.apart 2 1 _ _ rfl rfl (by omega))).mono ?_); rintro e W' ⟨rfl, hb'⟩; rw [Hc.out]; have hM' := hM.call hb'; clear hM hb'; have hM := hM'; clear hM') | (have _t := tk_q1; (refine wpList_lay rfl _ _ _ rfl _ _ rfl _ _ rfl hM 0 rfl (by assumption) (rowTab _ _ rfl) (by omega) ?_ ?_; (first | (intro _ _; rfl) | (intro k _; exact h1 _) | (intro k _; simp only [lay, upd]; (repeat' split) <;> first | exact h1 _ | rfl)); intro W' hM'; clear hM; have hM := hM'; clear hM'; simp only [List.set] at hM); clear tk_q1))
    refine bodyPost_ret (results_at3 rfl _ rfl ((hM.ats 0 _ _ _ rfl).congr (lay_zP _)) (rowTab _ _ rfl)) rfl ?_
    exact ⟨ret_pas3 Hr.out, hM.below⟩
  have Hc := Lib.hid (askG_yes ho)
  cases hi : inB 0 365 n
  · have Hr := Lib.hid (growD_out ho hi)
    have Hi := Lib.hid hi
    clear ho hi
    go_enter Tryd.func26, Tryd.ntmps26
    go_wp2_with (first | (have _t := tk_b1; refine wpList_box rfl _ _ rfl _ _ rfl hM ?_; intro b1 W' hb1 hM'; clear hM tk_b1; have hM := hM'; clear hM') | (have _t := tk_b2; refine wpList_box rfl _ _ rfl _ _ rfl hM ?_; intro b2 W' hb2 hM'; clear hM tk_b2; have hM := hM'; clear hM') | (have _t := tk_b3; refine wpList_zero rfl _ rfl (zeroTab _ _ _ rfl) hM ?_; intro b3 W' hb3 hM'; clear hM tk_b3; have hM := hM'; clear hM') | (go_at_call 55; (with_reducible refine (l04Asked_any p HP.out h HF.out b1 b2 _ (hM.ats 2 _ _ _ rfl) (hM.ats 1 _ _ _ rfl) (hM.apart 2 1 _ _ rfl rfl (by omega))).mono ?_); rintro e W' ⟨rfl, hb'⟩; rw [Hc.out]; have hM' := hM.call hb'; clear hM hb'; have hM := hM'; clear hM') | (go_at_call 45; (with_reducible refine (l04Day_any n _).mono ?_); rintro e W' ⟨rfl, hb'⟩; rw [Hi.out]; have hM' := hM.call hb'; clear hM hb'; have hM := hM'; clear hM') | (have _t := tk_q1; (refine wpList_lay rfl _ _ _ rfl _ _ rfl _ _ rfl hM 0 rfl (by assumption) (rowTab _ _ rfl) (by omega) ?_ ?_; (first | (intro _ _; rfl) | (intro k _; exact h1 _) | (intro k _; simp only [lay, upd]; (repeat' split) <;> first | exact h1 _ | rfl)); intro W' hM'; clear hM; have hM := hM'; clear hM'; simp only [List.set] at hM); clear tk_q1))
    refine bodyPost_ret (results_at3 rfl _ rfl ((hM.ats 0 _ _ _ rfl).congr (lay_zP _)) (rowTab _ _ rfl)) rfl ?_
    exact ⟨ret_pas3 Hr.out, hM.below⟩
  have hb := inB_true hi
  obtain ⟨n, rfl⟩ : ∃ m : Nat, n = m := ⟨n.toNat, by omega⟩
  have ho' := ho
  rw [Bool.and_eq_true] at ho'
  obtain ⟨W, H, p0, p1, hW, hH⟩ := ok_sizes2 ho'.1
  have Hr := Lib.hid (growD_ok ho hi p0 p1)
  have Hi := Lib.hid hi
  have Hp := Lib.hid (ok_in ho'.1)
  have He := Lib.hid ho'.2
  have hD := Lib.hid (dayG_in He.out Hp.out W H n)
  have hDf := Lib.hid (dayG_fits He.out Hp.out HP.out W H n)
  have s1 := gsum_in hD.out
  have s2 := gsum_in Hp.out
  have hcon := Lib.hid (fun bg w hA => l04Days_any h p He.out Hp.out W H hW hH p0 p1 bg n (by omega) w hA)
  clear ho hi ho'
  generalize dayG h p W H n = D at *
  have c1 : IntKind.i64.wrap (gsum D - gsum p) = gsum D - gsum p := IntWalk.i64_in _ (by omega)
  have SD := Lib.hid (l01Sum_g D hDf.out hD.out)
  have SP := Lib.hid (l01Sum_g p HP.out Hp.out)
  generalize gsum D = x at *
  generalize gsum p = y at *
  clear s1 s2
  have tk_b4 : True := trivial; have tk_q2 : True := trivial
  go_enter Tryd.func26, Tryd.ntmps26
  go_wp2_with (first | (have _t := tk_b1; refine wpList_box rfl _ _ rfl _ _ rfl hM ?_; intro b1 W' hb1 hM'; clear hM tk_b1; have hM := hM'; clear hM') | (have _t := tk_b2; refine wpList_box rfl _ _ rfl _ _ rfl hM ?_; intro b2 W' hb2 hM'; clear hM tk_b2; have hM := hM'; clear hM') | (have _t := tk_b3; refine wpList_zero rfl _ rfl (zeroTab _ _ _ rfl) hM ?_; intro b3 W' hb3 hM'; clear hM tk_b3; have hM := hM'; clear hM') | (go_at_call 55; (with_reducible refine (l04Asked_any p HP.out h HF.out b1 b2 _ (hM.ats 2 _ _ _ rfl) (hM.ats 1 _ _ _ rfl) (hM.apart 2 1 _ _ rfl rfl (by omega))).mono ?_); rintro e W' ⟨rfl, hb'⟩; rw [Hc.out]; have hM' := hM.call hb'; clear hM hb'; have hM := hM'; clear hM') | (go_at_call 45; (with_reducible refine (l04Day_any (n : Int) _).mono ?_); rintro e W' ⟨rfl, hb'⟩; rw [Hi.out]; have hM' := hM.call hb'; clear hM hb'; have hM := hM'; clear hM') | (have _t := tk_q2; (refine wpList_get rfl _ _ rfl _ _ rfl hM 2 rfl (rowTab _ _ rfl) (by omega) ?_); clear tk_q2) | (go_at_call 59; (with_reducible refine (hcon.out b2 _ (hM.ats 1 _ _ _ rfl)).mono ?_); rintro e W' ⟨rfl, hb'⟩; have hM' := hM.call hb'; clear hM hb'; have hM := hM'; clear hM') | (have _t := tk_b4; refine wpList_zero rfl _ rfl (zeroTab _ _ _ rfl) hM ?_; intro b4 W' hb4 hM'; clear hM tk_b4; have hM := hM'; clear hM') | (have _t := tk_q1; (refine wpList_lay rfl _ _ _ rfl _ _ rfl _ _ rfl hM 0 rfl (by assumption) (rowTab _ _ rfl) (by omega) ?_ ?_; (first | (intro _ _; rfl) | (intro k _; exact h1 _) | (intro k _; simp only [lay, upd]; (repeat' split) <;> first | exact h1 _ | rfl)); intro W' hM'; clear hM; have hM := hM'; clear hM'; simp only [List.set] at hM); clear tk_q1))
  have hM2 := hM.re 0 rfl (pas D) (lay_pasy _ _)
  simp only [List.set_cons_zero] at hM2
  clear hM
  have hM := hM2
  clear hM2
  have hM2 := hM.swap
  clear hM
  have hM := hM2
  clear hM2
  ((try simp only [Act.put, List.setIfInBounds_toArray, List.set_cons_succ, List.set_cons_zero]); refine region_readsX [0, 1, 2, 3] #[true, true, true, true, false, false, false] 3 [(b3, 122, zP)] (by kernel_rfl) (by kernel_rfl) (by kernel_rfl) hM ?_; clear hM; (repeat (refine qs_plain rfl rfl ?_; first | (refine b_get _ _ rfl _ _ rfl 0 rfl (rowTab _ _ rfl) (by omega) ?_; (simp only [Act.put, List.setIfInBounds_toArray, List.set_cons_succ, List.set_cons_zero])) | (refine b_call ?_; apply Exists.intro; apply Exists.intro; apply Exists.intro; refine ⟨fun W => ?_, fun W hM => ?_, ?_⟩; (go_simp; exact ⟨rfl, rfl⟩); (with_reducible exact SD.out b4 W (hM.ats 0 _ _ _ rfl)); (simp only [Act.put, List.setIfInBounds_toArray, List.set_cons_succ, List.set_cons_zero])) | (refine b_call ?_; apply Exists.intro; apply Exists.intro; apply Exists.intro; refine ⟨fun W => ?_, fun W hM => ?_, ?_⟩; (go_simp; exact ⟨rfl, rfl⟩); (with_reducible exact SP.out b1 W (hM.ats 2 _ _ _ rfl)); (simp only [Act.put, List.setIfInBounds_toArray, List.set_cons_succ, List.set_cons_zero])) | (refine b_val ?_; apply Exists.intro; refine ⟨fun W => ?_, ?_⟩; (go_simp; (try simp only [c1, if_true]); rfl); (simp only [Act.put, List.setIfInBounds_toArray, List.set_cons_succ, List.set_cons_zero])))); (with_reducible refine qs_nil ?_))
  (refine mix_one (i := 4) (by kernel_rfl) rfl (by kernel_rfl) rfl ?_)
  (refine step_lay _ _ _ rfl _ _ rfl _ _ rfl 0 rfl (by assumption) (rowTab _ _ rfl) (by omega) ?_ ?_; (first | (intro _ _; rfl) | (intro k _; exact h1 _)); simp only [List.set]; (simp only [Act.put, List.setIfInBounds_toArray, List.set_cons_succ, List.set_cons_zero]))
  (refine mix_one (i := 5) (by kernel_rfl) rfl (by kernel_rfl) rfl ?_)
  (refine step_val ?_; apply Exists.intro; refine ⟨fun W => ?_, ?_⟩; (go_simp; rfl); (simp only [Act.put, List.setIfInBounds_toArray, List.set_cons_succ, List.set_cons_zero]))
  (refine mix_one (i := 6) (by kernel_rfl) rfl (by kernel_rfl) rfl ?_)
  (refine step_val ?_; apply Exists.intro; refine ⟨fun W => ?_, ?_⟩; (go_simp; rfl); (simp only [Act.put, List.setIfInBounds_toArray, List.set_cons_succ, List.set_cons_zero]))
  (refine mix_end (by kernel_rfl) ?_; intro W' hM; simp only [List.cons_append, List.nil_append] at hM)
  go_wp2
  refine bodyPost_ret (results_at3 rfl _ rfl ((hM.ats 0 _ _ _ rfl).congr (lay_pasz _ _)) (rowTab _ _ rfl)) rfl ?_
  exact ⟨ret_pas3 Hr.out, hM.below⟩

set_option maxRecDepth 100000 in
set_option maxHeartbeats 2000000 in
theorem specGrowOnce_any (p : Nat → Int) (hp : Fits p) (h : Nat → Int) (hF : FitsW h) (w : World) :
    Calls Tryd.prog 23 #[.agg (arr 122 (pas p)), .agg (arr 12 (gro h))] w fun e w' => e = .returned (growD p h 1) ∧ Below w.heap.size w w' := by
  have hM := Mem.nil w
  have HP := Lib.hid hp
  have HF := Lib.hid hF
  clear hp hF
  have tk_b1 : True := trivial; have tk_b2 : True := trivial; have tk_b3 : True := trivial; have tk_q1 : True := trivial
  cases ho : (okB p && growB h)
  · have Hr := Lib.hid (growD_no (n := 1) ho)
    have Hc := Lib.hid (askG_no ho)
    clear ho
    go_enter Tryd.func23, Tryd.ntmps23
    go_wp2_with (first | (have _t := tk_b1; refine wpList_box rfl _ _ rfl _ _ rfl hM ?_; intro b1 W' hb1 hM'; clear hM tk_b1; have hM := hM'; clear hM') | (have _t := tk_b2; refine wpList_box rfl _ _ rfl _ _ rfl hM ?_; intro b2 W' hb2 hM'; clear hM tk_b2; have hM := hM'; clear hM') | (have _t := tk_b3; refine wpList_zero rfl _ rfl (zeroTab _ _ _ rfl) hM ?_; intro b3 W' hb3 hM'; clear hM tk_b3; have hM := hM'; clear hM') | (go_at_call 55; (with_reducible refine (l04Asked_any p HP.out h HF.out b1 b2 _ (hM.ats 2 _ _ _ rfl) (hM.ats 1 _ _ _ rfl) (hM.apart 2 1 _ _ rfl rfl (by omega))).mono ?_); rintro e W' ⟨rfl, hb'⟩; rw [Hc.out]; have hM' := hM.call hb'; clear hM hb'; have hM := hM'; clear hM') | (have _t := tk_q1; (refine wpList_lay rfl _ _ _ rfl _ _ rfl _ _ rfl hM 0 rfl (by assumption) (rowTab _ _ rfl) (by omega) ?_ ?_; (first | (intro _ _; rfl) | (intro k _; exact h1 _) | (intro k _; simp only [lay, upd]; (repeat' split) <;> first | exact h1 _ | rfl)); intro W' hM'; clear hM; have hM := hM'; clear hM'; simp only [List.set] at hM); clear tk_q1))
    refine bodyPost_ret (results_at3 rfl _ rfl ((hM.ats 0 _ _ _ rfl).congr (lay_zP _)) (rowTab _ _ rfl)) rfl ?_
    exact ⟨ret_pas3 Hr.out, hM.below⟩
  have Hc := Lib.hid (askG_yes ho)
  have ho' := ho
  rw [Bool.and_eq_true] at ho'
  obtain ⟨W, H, p0, p1, hW, hH⟩ := ok_sizes2 ho'.1
  have Hr := Lib.hid (growD_ok (n := 1) ho (inB_yes (by omega)) p0 p1)
  have Hp := Lib.hid (ok_in ho'.1)
  have He := Lib.hid ho'.2
  have hD := Lib.hid (dayG_in He.out Hp.out W H 1)
  have hDf := Lib.hid (dayG_fits He.out Hp.out HP.out W H 1)
  have s1 := gsum_in hD.out
  have s2 := gsum_in Hp.out
  have hcon0 := fun bg w hA => l04Grow_any h p He.out Hp.out W H hW hH p0 p1 bg w hA
  rw [show growT h p W (W * H) = dayG h p W H 1 from rfl] at hcon0
  have hcon := Lib.hid hcon0
  clear ho ho' hcon0
  generalize dayG h p W H 1 = D at *
  have c1 : IntKind.i64.wrap (gsum D - gsum p) = gsum D - gsum p := IntWalk.i64_in _ (by omega)
  have SD := Lib.hid (l01Sum_g D hDf.out hD.out)
  have SP := Lib.hid (l01Sum_g p HP.out Hp.out)
  generalize gsum D = x at *
  generalize gsum p = y at *
  clear s1 s2
  have tk_b4 : True := trivial; have tk_q2 : True := trivial
  go_enter Tryd.func23, Tryd.ntmps23
  go_wp2_with (first | (have _t := tk_b1; refine wpList_box rfl _ _ rfl _ _ rfl hM ?_; intro b1 W' hb1 hM'; clear hM tk_b1; have hM := hM'; clear hM') | (have _t := tk_b2; refine wpList_box rfl _ _ rfl _ _ rfl hM ?_; intro b2 W' hb2 hM'; clear hM tk_b2; have hM := hM'; clear hM') | (have _t := tk_b3; refine wpList_zero rfl _ rfl (zeroTab _ _ _ rfl) hM ?_; intro b3 W' hb3 hM'; clear hM tk_b3; have hM := hM'; clear hM') | (go_at_call 55; (with_reducible refine (l04Asked_any p HP.out h HF.out b1 b2 _ (hM.ats 2 _ _ _ rfl) (hM.ats 1 _ _ _ rfl) (hM.apart 2 1 _ _ rfl rfl (by omega))).mono ?_); rintro e W' ⟨rfl, hb'⟩; rw [Hc.out]; have hM' := hM.call hb'; clear hM hb'; have hM := hM'; clear hM') | (have _t := tk_q2; (refine wpList_get rfl _ _ rfl _ _ rfl hM 2 rfl (rowTab _ _ rfl) (by omega) ?_); clear tk_q2) | (go_at_call 56; (with_reducible refine (hcon.out b2 _ (hM.ats 1 _ _ _ rfl)).mono ?_); rintro e W' ⟨rfl, hb'⟩; have hM' := hM.call hb'; clear hM hb'; have hM := hM'; clear hM') | (have _t := tk_b4; refine wpList_zero rfl _ rfl (zeroTab _ _ _ rfl) hM ?_; intro b4 W' hb4 hM'; clear hM tk_b4; have hM := hM'; clear hM') | (have _t := tk_q1; (refine wpList_lay rfl _ _ _ rfl _ _ rfl _ _ rfl hM 0 rfl (by assumption) (rowTab _ _ rfl) (by omega) ?_ ?_; (first | (intro _ _; rfl) | (intro k _; exact h1 _) | (intro k _; simp only [lay, upd]; (repeat' split) <;> first | exact h1 _ | rfl)); intro W' hM'; clear hM; have hM := hM'; clear hM'; simp only [List.set] at hM); clear tk_q1))
  have hM2 := hM.re 0 rfl (pas D) (lay_pasy _ _)
  simp only [List.set_cons_zero] at hM2
  clear hM
  have hM := hM2
  clear hM2
  have hM2 := hM.swap
  clear hM
  have hM := hM2
  clear hM2
  ((try simp only [Act.put, List.setIfInBounds_toArray, List.set_cons_succ, List.set_cons_zero]); refine region_readsX [0, 1, 2, 3] #[true, true, true, true, false, false, false] 3 [(b3, 122, zP)] (by kernel_rfl) (by kernel_rfl) (by kernel_rfl) hM ?_; clear hM; (repeat (refine qs_plain rfl rfl ?_; first | (refine b_get _ _ rfl _ _ rfl 0 rfl (rowTab _ _ rfl) (by omega) ?_; (simp only [Act.put, List.setIfInBounds_toArray, List.set_cons_succ, List.set_cons_zero])) | (refine b_call ?_; apply Exists.intro; apply Exists.intro; apply Exists.intro; refine ⟨fun W => ?_, fun W hM => ?_, ?_⟩; (go_simp; exact ⟨rfl, rfl⟩); (with_reducible exact SD.out b4 W (hM.ats 0 _ _ _ rfl)); (simp only [Act.put, List.setIfInBounds_toArray, List.set_cons_succ, List.set_cons_zero])) | (refine b_call ?_; apply Exists.intro; apply Exists.intro; apply Exists.intro; refine ⟨fun W => ?_, fun W hM => ?_, ?_⟩; (go_simp; exact ⟨rfl, rfl⟩); (with_reducible exact SP.out b1 W (hM.ats 2 _ _ _ rfl)); (simp only [Act.put, List.setIfInBounds_toArray, List.set_cons_succ, List.set_cons_zero])) | (refine b_val ?_; apply Exists.intro; refine ⟨fun W => ?_, ?_⟩; (go_simp; (try simp only [c1, if_true]); rfl); (simp only [Act.put, List.setIfInBounds_toArray, List.set_cons_succ, List.set_cons_zero])))); (with_reducible refine qs_nil ?_))
  (refine mix_one (i := 4) (by kernel_rfl) rfl (by kernel_rfl) rfl ?_)
  (refine step_lay _ _ _ rfl _ _ rfl _ _ rfl 0 rfl (by assumption) (rowTab _ _ rfl) (by omega) ?_ ?_; (first | (intro _ _; rfl) | (intro k _; exact h1 _)); simp only [List.set]; (simp only [Act.put, List.setIfInBounds_toArray, List.set_cons_succ, List.set_cons_zero]))
  (refine mix_one (i := 5) (by kernel_rfl) rfl (by kernel_rfl) rfl ?_)
  (refine step_val ?_; apply Exists.intro; refine ⟨fun W => ?_, ?_⟩; (go_simp; rfl); (simp only [Act.put, List.setIfInBounds_toArray, List.set_cons_succ, List.set_cons_zero]))
  (refine mix_one (i := 6) (by kernel_rfl) rfl (by kernel_rfl) rfl ?_)
  (refine step_val ?_; apply Exists.intro; refine ⟨fun W => ?_, ?_⟩; (go_simp; rfl); (simp only [Act.put, List.setIfInBounds_toArray, List.set_cons_succ, List.set_cons_zero]))
  (refine mix_end (by kernel_rfl) ?_; intro W' hM; simp only [List.cons_append, List.nil_append] at hM)
  go_wp2
  refine bodyPost_ret (results_at3 rfl _ rfl ((hM.ats 0 _ _ _ rfl).congr (lay_pasz _ _)) (rowTab _ _ rfl)) rfl ?_
  exact ⟨ret_pas3 Hr.out, hM.below⟩
end Go.Proofs.YtflobpbfpkoghaaDoor

/-
  impl's tend and yieldOf of a growth by contracts.
-/
namespace Go.Proofs.YtflobpbfpkoghaaDoor
open Go Go.RowKit Go.BigFrame

theorem growLater (v : Value) (w : World) : (Go.method 309 29 v "loop.example/g01345/impl.later").run Tryd.prog w = .ok (40, v) w := by kernel_rfl
theorem noGrazing (v : Value) (w : World) : (Instr.typeAssert (.iface 29 v) 144 161 true).run Tryd.prog w = .ok (.tuple #[.pointer none, .bool false]) w := by kernel_rfl
theorem noMowing (v : Value) (w : World) : (Instr.typeAssert (.iface 29 v) 144 162 true).run Tryd.prog w = .ok (.tuple #[.int .i64 0, .bool false]) w := by kernel_rfl
set_option maxRecDepth 100000 in
theorem yieldOf_gro (v : Value) (n : Int) (w : World) :
    Calls Tryd.prog 93 #[.iface 29 v, .int .i64 n] w fun e w' => e = .returned (.int .i64 n) ∧ Below w.heap.size w w' := by
  have t1 := noGrazing v
  have t2 := noMowing v
  go_enter Tryd.func93, Tryd.ntmps93
  go_wp2
  go_ret
  exact ⟨rfl, Below.refl _ _⟩
theorem grassAt_of (p : Nat → Int) (hp : Fits p) (f : Nat → Value) (x y : Nat) (hx : x < 10) (hy : y < 10) (h0 : f 0 = .int .i8 x) (h1 : f 1 = .int .i8 y) (w : World) :
    Calls Tryd.prog 75 #[.agg (arr 122 (pas p)), .agg (arr 2 f)] w fun e w' => e = .returned (.int .i64 (p (2 + y * 10 + x))) ∧ Below w.heap.size w w' := by
  rw [show arr 2 f = arr 2 (sp x y) from arr_congr fun k hk => by
    rcases (show k = 0 ∨ k = 1 by omega) with rfl | rfl
    · exact h0
    · exact h1]
  exact grassAt_any p hp x y hx hy w
/-- The i-th cell, as a spot. -/
def sC (W : Nat) : Nat → Int × Int := fun i => (((i % W : Nat) : Int), ((i / W : Nat) : Int))
theorem lay_two0 (z F : Nat → Value) (i : Nat) (v : Value) (h : F (i * 2) = v) : lay z 0 2 (fun q => F (i * 2 + q)) 0 = v := by simpa [lay] using h
theorem lay_two1 (z F : Nat → Value) (i : Nat) (v : Value) (h : F (i * 2 + 1) = v) : lay z 0 2 (fun q => F (i * 2 + q)) 1 = v := by simpa [lay] using h

def TendIn (w : Base) (h p : Nat → Int) (W M b6 b3 bc N : Nat) (F : Nat → Value) (c i : Value) (wr : World) : Prop :=
  ∃ k : Nat, k ≤ M ∧ c = .int .i64 (gsum (growT h p W k) - gsum p) ∧ i = .int .i64 k ∧ Mem w [(b6, 122, zP), (b3, 122, pas (growT h p W k)), (bc, N, F)] wr

set_option maxRecDepth 100000 in
set_option maxHeartbeats 4000000 in
theorem tend_gro (h p : Nat → Int) (e : growB h = true) (hp : GrassOk p) (hf : Fits p) (W H : Nat) (hW : 1 ≤ W ∧ W ≤ 10) (hH : 1 ≤ H ∧ H ≤ 10) (bc N cc : Nat) (F : Nat → Value) (hN : W * H * 2 ≤ N) (hF : ∀ j, j < W * H * 2 → F j = sps (sC W) j) (w : World) (hA : At w bc N F) :
    Calls Tryd.prog 81 #[.agg (arr 122 (pas p)), .slice (some ⟨bc, 0, none⟩) (W * H) cc, .iface 29 (.agg (arr 12 (gro h)))] w fun e w' =>
      e = .returned (.tuple #[.agg (arr 122 (pas (growT h p W (W * H)))), .int .i64 (gsum (growT h p W (W * H)) - gsum p)]) ∧ Below w.heap.size w w' := by
  have hM : Mem w [(bc, N, F)] w := (Mem.nil w).old hA (fun i p h => by simp at h)
  have hWH : W * H ≤ 100 := Nat.mul_le_mul hW.2 hH.2
  have hdiv : ∀ i, i < W * H → i / W < H := fun i hi => Nat.div_lt_of_lt_mul hi
  have HF := Lib.hid hF
  have Hp := Lib.hid hp
  have Hf := Lib.hid hf
  have He := Lib.hid e
  have Hd := Lib.hid hdiv
  clear hA hp e hF hf hdiv
  generalize W * H = M at *
  have tk_b3 : True := trivial; have tk_b6 : True := trivial
  go_enter Tryd.func81, Tryd.ntmps81
  go_wp2_with (first | (have _t := tk_b3; refine wpList_box rfl _ _ rfl _ _ rfl hM ?_; intro b3 W' hb3 hM'; clear hM tk_b3; have hM := hM'; clear hM') | (have _t := tk_b6; refine wpList_zero rfl _ rfl (zeroTab _ _ _ rfl) hM ?_; intro b6 W' hb6 hM'; clear hM tk_b6; have hM := hM'; clear hM'))
  go_loopw [8, 15] (fun c i wr => TendIn w h p W M b6 b3 bc N F c i wr) (fun _ i _ => M - (intOf i).toNat)
  case atStart => exact ⟨0, by omega, by rw [growT_zero]; exact congrArg _ (by omega), rfl, by rw [growT_zero]; exact hM⟩
  case round =>
    clear hM
    obtain ⟨i, hi, rfl, rfl, hM⟩ := hrel
    have q1 := growT_in He.out Hp.out W i
    have q2 := growT_fits He.out Hp.out Hf.out W i
    have Q2 := Lib.hid q2
    have s1 := gsum_in q1
    have s0 := gsum_in Hp.out
    by_cases hlt : i < M
    · have li : (i : Int) < M := by omega
      have hk := Hd.out i hlt
      have hj := Nat.mod_lt i (show 0 < W by omega)
      have hij : i / W * W + i % W = i := by rw [Nat.mul_comm]; exact Nat.div_add_mod i W
      have ef0 : F (i * 2) = .int .i8 ((i % W : Nat) : Int) := by rw [HF.out _ (by omega), ← Nat.add_zero (i * 2), sps_fst]; rfl
      have ef1 : F (i * 2 + 1) = .int .i8 ((i / W : Nat) : Int) := by rw [HF.out _ (by omega), sps_snd]; rfl
      have hs := growT_succ h p W (i / W) (i % W) hj hW.2 (by omega)
      have hg := gsum_succ h p W (i / W) (i % W) hj hW.2 (by omega)
      have ha := growT_at h p W (i / W) (i % W) hj hW.2 (by omega)
      have hr := Hp.out.at (k := i / W) (j := i % W) (by omega) (by omega)
      have s2 := gsum_in (growT_in He.out Hp.out W (i + 1))
      rw [hij] at hs hg ha
      generalize i % W = j at *
      generalize i / W = k at *
      have lj : (j : Int) < 10 := by omega
      have lk : (k : Int) < 10 := by omega
      obtain ⟨n, hn⟩ : ∃ n : Nat, p (2 + k * 10 + j) = n := ⟨(p (2 + k * 10 + j)).toNat, by omega⟩
      rw [hn] at hs hg ha hr
      rw [Int.toNat_natCast] at hs hg
      have hl := later_in He.out (n := n) (by omega)
      have hn1 : n ≤ 1000 := by omega
      have es0 := fun z => lay_two0 z F i _ ef0
      have es1 := fun z => lay_two1 z F i _ ef1
      have c1 : IntKind.i16.wrap (laterN h n) = laterN h n := IntWalk.i16_in _ (by omega)
      have c2 : IntKind.i64.wrap (laterN h n - n) = laterN h n - n := IntWalk.i64_in _ (by omega)
      have c3 : IntKind.i64.wrap (gsum (growT h p W i) - gsum p + (laterN h n - n)) = gsum (growT h p W (i + 1)) - gsum p := by rw [IntWalk.i64_in _ (by omega), hg]; omega
      have Hs := Lib.hid hs
      have Ga : ∀ W', Calls Tryd.prog 75 #[.agg (arr 122 (pas (growT h p W i))), .agg (arr 2 (fun q => lay (fun _ => .int .i8 0) 0 2 (fun q => F (i * 2 + q)) q))] W' fun e w' => e = .returned (.int .i64 n) ∧ Below W'.heap.size W' w' := fun W' => by
        rw [← ha]; exact grassAt_of _ q2 _ j k (by omega) (by omega) (es0 _) (es1 _) W'
      have GA := Lib.hid Ga
      have hm := growLater
      have hone : ∀ q, q < 2 → (F (i * 2 + q)).oneCell' = true := fun q hq => by
        rcases (show q = 0 ∨ q = 1 by omega) with rfl | rfl
        · rw [Nat.add_zero, ef0]; rfl
        · rw [ef1]; rfl
      have ho2 : i * 2 + 2 ≤ N := by omega
      have ho3 : 2 + k * 10 + j < 122 := by omega
      have hk2 : 2 ≤ 2 + k * 10 + j := by omega
      have hk3 : 2 + k * 10 + j < 102 := by omega
      clear hs hg ha hr hl s0 s1 s2 q1 q2 Ga hn hij hj hk ef0 ef1
      have tk_bs : True := trivial; have tk_r1 : True := trivial; have tk_r2 : True := trivial; have tk_r3 : True := trivial; have tk_r4 : True := trivial
      go_wp2_with (first | (have _t := tk_r1; (refine wpList_get rfl _ _ rfl _ _ rfl hM 2 rfl (rowTab _ _ rfl) (by omega) ?_); clear tk_r1) | (have _t := tk_bs; refine wpList_zero rfl _ rfl (zeroTab _ _ _ rfl) hM ?_; intro bs W' hbs hM'; clear hM tk_bs; have hM := hM'; clear hM') | (have _t := tk_r2; refine wpList_lay rfl _ _ _ rfl _ _ rfl _ _ rfl hM 0 rfl (by assumption) (rowTab _ _ rfl) (by omega) hone ?_; intro W' hM'; clear hM tk_r2; have hM := hM'; clear hM'; simp only [List.set] at hM) | (have _t := tk_r3; (refine wpList_get rfl _ _ rfl _ _ rfl hM 2 rfl (rowTab _ _ rfl) (by omega) ?_); clear tk_r3) | (have _t := tk_r4; (refine wpList_get rfl _ _ rfl _ _ rfl hM 0 rfl (rowTab _ _ rfl) (by omega) ?_); clear tk_r4) | (go_at_call 75; refine (GA.out _).mono ?_; rintro e W' ⟨rfl, hb'⟩; have hM' := hM.call hb'; clear hM hb'; have hM := hM'; clear hM') | (go_at_call 40; (with_reducible refine (later_any h He.out n hn1 _).mono ?_); rintro e W' ⟨rfl, hb'⟩; have hM' := hM.call hb'; clear hM hb'; have hM := hM'; clear hM'))
      ((try simp only [Act.put, List.setIfInBounds_toArray, List.set_cons_succ, List.set_cons_zero]); refine region_tail_mem (m := 9) (by kernel_rfl) (by kernel_rfl) ?_; (have hM' := hM.drew); clear hM; have hM := hM'; clear hM'; simp only [List.take_succ_cons, List.take_zero, List.drop_succ_cons, List.drop_zero]; (repeat (refine wps_plain rfl ?_; (first | (refine still_get1 hM _ _ rfl _ _ rfl 0 rfl (cellTab _ rfl) (by omega) _ (es1 _) ?_) | (refine still_get1 hM _ _ rfl _ _ rfl 0 rfl (cellTab _ rfl) (by omega) _ (es0 _) ?_) | (refine still_val ?_; apply Exists.intro; refine ⟨fun W => ?_, ?_⟩; (go_simp; (try simp only [c1, lj, lk, if_true]); rfl))); (simp only [Act.put, List.setIfInBounds_toArray, List.set_cons_succ, List.set_cons_zero]))); unfold wpStill)
      go_wp2_with (first | (refine wpList_set1 rfl _ _ _ rfl _ _ rfl (.int .i16 (laterN h n)) rfl rfl hM 2 rfl (by assumption) (cellTab _ rfl) (by omega) ?_; intro W' hM'; clear hM; have hM := hM'; clear hM'; simp only [List.set] at hM))
      rw [upd_pas _ _ _ hk2 hk3, Hs.out] at hM
      go_roundw
      case rel => exact (⟨i + 1, by omega, rfl, by go_num, hM.drop⟩ : TendIn w h p W M b6 b3 bc N F _ _ _)
      case measure => simp [intOf]; omega
    · obtain rfl : i = M := by omega
      have hy := fun v n w => yieldOf_gro v n w
      go_wp2
      ((try simp only [Act.put, List.setIfInBounds_toArray, List.set_cons_succ, List.set_cons_zero]); refine region_head_mem (m := 4) (by kernel_rfl) (by kernel_rfl) hM ?_; clear hM; simp only [List.take_succ_cons, List.take_zero, List.drop_succ_cons, List.drop_zero]; (repeat (first | go_big_quiet_skip | (go_big_quiet_want; first | (refine quiet_get _ _ rfl _ _ rfl 1 rfl (rowTab _ _ rfl) (by omega) ?_; (simp only [Act.put, List.setIfInBounds_toArray, List.set_cons_succ, List.set_cons_zero]); go_big_quiet_on) | (refine quiet_call ?_; apply Exists.intro; apply Exists.intro; apply Exists.intro; refine ⟨fun W => ?_, fun W hM => ?_, ?_⟩; (go_simp; exact ⟨rfl, rfl⟩); (with_reducible exact yieldOf_gro _ _ W); (simp only [Act.put, List.setIfInBounds_toArray, List.set_cons_succ, List.set_cons_zero]); go_big_quiet_on) | (refine quiet_val ?_; apply Exists.intro; refine ⟨fun W => ?_, ?_⟩; (go_simp; rfl); (simp only [Act.put, List.setIfInBounds_toArray, List.set_cons_succ, List.set_cons_zero]); go_big_quiet_on)))); (with_reducible refine wpQuiet_nil ?_); intro W' hM)
      go_wp2_with (first | (refine wpList_lay rfl _ _ _ rfl _ _ rfl _ _ rfl hM 0 rfl (by assumption) (rowTab _ _ rfl) (by omega) ?_ ?_; (first | (intro _ _; rfl) | (intro k _; exact h1 _) | (intro k _; simp only [lay, upd]; (repeat' split) <;> first | exact h1 _ | rfl)); intro W' hM'; clear hM; have hM := hM'; clear hM'; simp only [List.set] at hM))
      refine bodyPost_ret (results_at2 rfl _ rfl ((hM.ats 0 _ _ _ rfl).congr (lay_pasz _ _)) (rowTab _ _ rfl) _ rfl) rfl ?_
      exact ⟨rfl, hM.below⟩
end Go.Proofs.YtflobpbfpkoghaaDoor

/-
  impl's growing, and the day that it hands back, by contracts.
-/
namespace Go.Proofs.YtflobpbfpkoghaaDoor
open Go Go.RowKit Go.Shelf Go.BigFrame

theorem cells_stopsL (bp W H : Nat) (hW10 : W ≤ 10) (hH10 : H ≤ 10) (g : Nat → Int) (hg0 : g 0 = W) (hg1 : g 1 = H) (w : World) (hA : At w bp 122 (pas g)) :
    SeqStopsK Fence.wide 2 Tryd.prog 76 #[.pointer (some ⟨bp, 0, none⟩)] (fun c : Cell W H => #[.agg (arr 2 (sp (c.1.1 : Int) (c.1.2 : Int)))]) (KpL [(bp, 122, pas g)]) (fun xs => xs.map (·.1) = upto W (W * H)) (fun pre => ∃ i, i ≤ W * H ∧ pre.map (·.1) = upto W i) (W * H) w :=
  fun l J Jx W' hb _ _ hY h0 => cells1_in Fence.wide 2 trivial rfl (by omega) l bp W H hW10 hH10 g hg0 hg1 J Jx (fun pre x W1 hJ hlen => by
    obtain ⟨fn, tmps, assign, body, hy, hR⟩ := hY pre x W1 hJ hlen
    refine ⟨fn, tmps, assign, body, hy, hR.mono fun e W2 hh => ?_⟩
    rcases hh with ⟨h1, h2, h3⟩ | hh
    · exact .inl ⟨h1, h2, fun h4 => h3 (bp, 122, pas g) (by simp) h4⟩
    · exact .inr hh) W' (hA.below hb hA.lt) h0

/-- The cells in their order. -/
def cellsL (W M : Nat) : List (Int × Int) := (upto W M).map fun s => ((s.1 : Int), (s.2 : Int))
theorem cellsL_len (W M : Nat) : (cellsL W M).length = M := by simp [cellsL, upto]
theorem cellsL_at (W M i : Nat) (h : i < M) : sI (cellsL W M) i = sC W i := by
  unfold sI cellsL upto sC
  simp [List.getD, h, cellAt]
theorem cellsL_sps (W M j : Nat) (h : j < M * 2) : sps (sI (cellsL W M)) j = sps (sC W) j := by
  unfold sps
  rw [cellsL_at W M (j / 2) (by omega)]
theorem collect_cells (p : Nat → Int) (W H : Nat) (hW : 1 ≤ W ∧ W ≤ 10) (hH : 1 ≤ H ∧ H ≤ 10) (p0 : p 0 = W) (p1 : p 1 = H) (bp : Nat) (w : World) (hA : At w bp 122 (pas p)) :
    Calls Tryd.prog 79 #[.func (.func 76) #[] #[.pointer (some ⟨bp, 0, none⟩)]] w (GivesL w (cellsL W (W * H))) := by
  have hWH : W * H ≤ 100 := Nat.mul_le_mul hW.2 hH.2
  have hM : Mem w [(bp, 122, pas p)] w := (Mem.nil w).old hA (fun i p h => by simp at h)
  refine collect_any w ?_
  refine appendSeq_any (α := Cell W H) (fun c => (c.1.1 : Int)) (fun c => (c.1.2 : Int)) [(bp, 122, pas p)] (enters_of Tryd.func76 (by kernel_rfl) rfl) (N := W * H) (by omega) _ (fun xs hS => ?_) w hM
    (fun W1 h => cells_stopsL bp W H hW.2 hH.2 p p0 p1 W1 (h (bp, 122, pas p) (by simp)))
  unfold cellsL
  rw [← hS, List.map_map]; rfl

theorem Mem.three {w : Base} {W : World} {L : Blocks} (h : Mem w L W) (i j k : Nat) {p q r : Nat × Nat × (Nat → Value)} (hi : L[i]? = some p) (hj : L[j]? = some q) (hk : L[k]? = some r) (hij : i ≠ j) (hik : i ≠ k) (hjk : j ≠ k) : Mem w [p, q, r] W :=
  ⟨h.good, fun a b n f ha => by
    match a, ha with
    | 0, ha => simp at ha; subst ha; exact h.ats i _ _ _ hi
    | 1, ha => simp at ha; subst ha; exact h.ats j _ _ _ hj
    | 2, ha => simp at ha; subst ha; exact h.ats k _ _ _ hk
    | a + 3, ha => simp at ha,
   fun a b x y ha hb hne => by
    have key : ∀ (a : Nat) (x : Nat × Nat × (Nat → Value)), [p, q, r][a]? = some x → (a = 0 ∧ L[i]? = some x) ∨ (a = 1 ∧ L[j]? = some x) ∨ (a = 2 ∧ L[k]? = some x) := fun a x ha => by
      match a, ha with
      | 0, ha => simp at ha; subst ha; exact .inl ⟨rfl, hi⟩
      | 1, ha => simp at ha; subst ha; exact .inr (.inl ⟨rfl, hj⟩)
      | 2, ha => simp at ha; subst ha; exact .inr (.inr ⟨rfl, hk⟩)
      | a + 3, ha => simp at ha
    rcases key a x ha with ⟨rfl, h1⟩ | ⟨rfl, h1⟩ | ⟨rfl, h1⟩ <;> rcases key b y hb with ⟨rfl, h2⟩ | ⟨rfl, h2⟩ | ⟨rfl, h2⟩
    all_goals first
      | exact absurd rfl hne
      | exact h.apart _ _ x y h1 h2 hij
      | exact h.apart _ _ x y h1 h2 hik
      | exact h.apart _ _ x y h1 h2 hjk
      | exact h.apart _ _ x y h1 h2 (Ne.symm hij)
      | exact h.apart _ _ x y h1 h2 (Ne.symm hik)
      | exact h.apart _ _ x y h1 h2 (Ne.symm hjk)⟩

/-- What the day keeps: the list of cells, the growth, the cells. -/
abbrev dayK (h : Nat → Int) (M bv bg bl cc : Nat) (F : Nat → Value) : Blocks := [(bv, 1, fun _ => .slice (some ⟨bl, 0, none⟩) M cc), (bg, 12, gro h), (bl, cc * 2, F)]
def dayV (bv bg : Nat) : Value := .func (.func 80) #[] #[.pointer (some ⟨bv, 0, none⟩), .pointer (some ⟨bg, 0, none⟩)]
def GivesDay (h : Nat → Int) (W M : Nat) (w : World) (e : Ending) (w' : World) : Prop :=
  ∃ bv bg bl cc F, e = .returned (dayV bv bg) ∧ w.heap.size ≤ bv ∧ w.heap.size ≤ bg ∧ w.heap.size ≤ bl ∧ M ≤ cc ∧ (∀ j, j < M * 2 → F j = sps (sC W) j) ∧ Mem w (dayK h M bv bg bl cc F) w'

set_option maxRecDepth 100000 in
set_option maxHeartbeats 2000000 in
theorem growing_any (h p : Nat → Int) (W H : Nat) (hW : 1 ≤ W ∧ W ≤ 10) (hH : 1 ≤ H ∧ H ≤ 10) (p0 : p 0 = W) (p1 : p 1 = H) (w : World) :
    Calls Tryd.prog 62 #[.agg (arr 122 (pas p)), .agg (arr 12 (gro h))] w (GivesDay h W (W * H) w) := by
  have hM := Mem.nil w
  have hpos : 0 < (cellsL W (W * H)).length := by rw [cellsL_len]; exact Nat.mul_pos (by omega) (by omega)
  have HC := Lib.hid (collect_cells p W H hW hH p0 p1)
  have HL := Lib.hid (cellsL_len W (W * H))
  have HS := Lib.hid (cellsL_sps W (W * H))
  have tk_b1 : True := trivial; have tk_b2 : True := trivial; have tk_q1 : True := trivial; have tk_z1 : True := trivial
  go_enter Tryd.func62, Tryd.ntmps62
  go_wp2_with (first | (have _t := tk_b1; refine wpList_box rfl _ _ rfl _ _ rfl hM ?_; intro b1 W' hb1 hM'; clear hM tk_b1; have hM := hM'; clear hM') | (have _t := tk_b2; refine wpList_box rfl _ _ rfl _ _ rfl hM ?_; intro b2 W' hb2 hM'; clear hM tk_b2; have hM := hM'; clear hM') | (have _t := tk_q1; (refine wpList_get rfl _ _ rfl _ _ rfl hM 1 rfl (rowTab _ _ rfl) (by omega) ?_); clear tk_q1) | (go_at_call 54; refine (cells_any p _).mono ?_; rintro e W' ⟨bp, rfl, hbp, hAp, hbl⟩; have hM' := hM.freshH hbl hAp hbp; clear hM hAp hbl; have hM := hM'; clear hM') | (go_at_call 79; refine (HC.out bp _ (hM.ats 0 _ _ _ rfl)).mono ?_; rintro e W' ⟨v0, rfl, hL0⟩; obtain ⟨bl, cc, F, rfl, hbl1, hcc, hF, hAl, hbl2⟩ := hL0.some hpos; have hbl3 := Nat.le_trans hM.size hbl1; have hM' := hM.freshH hbl2 hAl hbl1; clear hM hAl hbl2 hL0; have hM := hM'; clear hM') | (have _t := tk_z1; refine wpList_zero1 rfl _ rfl spots_zero rfl hM ?_; intro bv W' hbv hM'; clear hM tk_z1; have hM := hM'; clear hM') | (refine wpList_set1 rfl _ _ _ rfl _ _ rfl _ rfl rfl hM 0 rfl (by assumption) spots_cell (by omega) ?_; intro W' hM'; clear hM; have hM := hM'; clear hM'; simp [List.set, Act.eval] at hM))
  go_ret
  rw [HL.out] at hF hcc hM
  have hM2 := hM.re 0 rfl (fun _ => .slice (some ⟨bl, 0, none⟩) (W * H) cc) (upd_one _ _)
  simp only [List.set] at hM2
  exact ⟨bv, b2, bl, cc, F, rfl, hbv, hb2, hbl3, hcc, fun j hj => by rw [hF j hj]; exact HS.out j hj, hM2.three 0 3 1 rfl rfl rfl (by omega) (by omega) (by omega)⟩

set_option maxRecDepth 100000 in
set_option maxHeartbeats 2000000 in
theorem day_any (h p : Nat → Int) (e : growB h = true) (hp : GrassOk p) (hf : Fits p) (W H : Nat) (hW : 1 ≤ W ∧ W ≤ 10) (hH : 1 ≤ H ∧ H ≤ 10) (bv bg bl cc : Nat) (F : Nat → Value) (hcc : W * H ≤ cc) (hF : ∀ j, j < W * H * 2 → F j = sps (sC W) j) (b0 : Base) (w : World) (hM0 : Mem b0 (dayK h (W * H) bv bg bl cc F) w) :
    Calls Tryd.prog 80 #[.agg (arr 122 (pas p)), .pointer (some ⟨bv, 0, none⟩), .pointer (some ⟨bg, 0, none⟩)] w fun e w' =>
      e = .returned (.tuple #[.agg (arr 122 (pas (growT h p W (W * H)))), .int .i64 (gsum (growT h p W (W * H)) - gsum p)]) ∧ Below w.heap.size w w' := by
  have hM : Mem w (dayK h (W * H) bv bg bl cc F) w := hM0.base (Below.refl _ _)
  have HT := Lib.hid (fun w hA => tend_gro h p e hp hf W H hW hH bl (cc * 2) cc F (by omega) hF w hA)
  clear hM0
  have tk_b3 : True := trivial; have tk_b4 : True := trivial; have tk_q1 : True := trivial; have tk_q2 : True := trivial; have tk_q3 : True := trivial
  go_enter Tryd.func80, Tryd.ntmps80
  go_wp2_with (first | (have _t := tk_b3; refine wpList_box rfl _ _ rfl _ _ rfl hM ?_; intro b3 W' hb3 hM'; clear hM tk_b3; have hM := hM'; clear hM') | (have _t := tk_b4; refine wpList_zero rfl _ rfl (zeroTab _ _ _ rfl) hM ?_; intro b4 W' hb4 hM'; clear hM tk_b4; have hM := hM'; clear hM') | (have _t := tk_q1; (refine wpList_get rfl _ _ rfl _ _ rfl hM 1 rfl (rowTab _ _ rfl) (by omega) ?_); clear tk_q1) | (have _t := tk_q2; (refine wpList_get1 rfl _ _ rfl _ _ rfl hM 2 rfl (cellTab _ rfl) (by omega) _ rfl ?_); clear tk_q2) | (have _t := tk_q3; (refine wpList_get rfl _ _ rfl _ _ rfl hM 3 rfl (rowTab _ _ rfl) (by omega) ?_); clear tk_q3) | (go_at_call 81; refine (HT.out _ (hM.ats 4 _ _ _ rfl)).mono ?_; rintro e W' ⟨rfl, hb'⟩; have hM' := hM.call hb'; clear hM hb'; have hM := hM'; clear hM') | (refine wpList_lay rfl _ _ _ rfl _ _ rfl _ _ rfl hM 0 rfl (by assumption) (rowTab _ _ rfl) (by omega) ?_ ?_; (first | (intro _ _; rfl) | (intro k _; exact h1 _) | (intro k _; simp only [lay, upd]; (repeat' split) <;> first | exact h1 _ | rfl)); intro W' hM'; clear hM; have hM := hM'; clear hM'; simp only [List.set] at hM))
  refine bodyPost_ret (results_at2 rfl _ rfl ((hM.ats 0 _ _ _ rfl).congr (lay_pasy _ _)) (rowTab _ _ rfl) _ rfl) rfl ?_
  exact ⟨rfl, hM.below⟩
end Go.Proofs.YtflobpbfpkoghaaDoor

/-
  impl's live over days of growing, sumOf, checkGrowing, by contracts.
-/
namespace Go.Proofs.YtflobpbfpkoghaaDoor
open Go Go.RowKit Go.BigFrame

theorem ints_under : Tryd.prog.underlying 94 = some (.slice 2) := Tryd.underlying94
theorem ints_info : (Tryd.prog.info? 2).map (fun i => (i.size, i.zero, i.bytes)) = some (1, some (.int .i64 0), 8) := by kernel_rfl
theorem ints_info2 : (Tryd.prog.info? 2).map (fun i => (i.size, i.zero)) = some (1, some (.int .i64 0)) := by kernel_rfl
/-- What grows, day by day, as cells. -/
def yV (h p : Nat → Int) (W H : Nat) : Nat → Value := fun j => .int .i64 (yieldD h p W H j)

theorem day_step (h p : Nat → Int) (e : growB h = true) (hp : GrassOk p) (hf : Fits p) (W H : Nat) (hW : 1 ≤ W ∧ W ≤ 10) (hH : 1 ≤ H ∧ H ≤ 10) (bv bg bl cc : Nat) (F : Nat → Value) (hcc : W * H ≤ cc) (hF : ∀ j, j < W * H * 2 → F j = sps (sC W) j) (k : Nat) (b0 : Base) (w : World) (hM0 : Mem b0 (dayK h (W * H) bv bg bl cc F) w) :
    Calls Tryd.prog 80 #[.agg (arr 122 (pas (dayG h p W H k))), .pointer (some ⟨bv, 0, none⟩), .pointer (some ⟨bg, 0, none⟩)] w fun e w' =>
      e = .returned (.tuple #[.agg (arr 122 (pas (dayG h p W H (k + 1)))), .int .i64 (yieldD h p W H k)]) ∧ Below w.heap.size w w' :=
  day_any h (dayG h p W H k) e (dayG_in e hp W H k) (dayG_fits e hp hf W H k) W H hW hH bv bg bl cc F hcc hF b0 w hM0

def LiveIn (w : World) (h p : Nat → Int) (W H n b6 b3 : Nat) (K : Blocks) (v i : Value) (wr : World) : Prop :=
  ∃ k : Nat, k ≤ n ∧ i = .int .i64 k ∧ Lst w ((b6, 122, zP) :: (b3, 122, pas (dayG h p W H k)) :: K) 1 v k (yV h p W H) wr
def GivesLive (h p : Nat → Int) (W H n : Nat) (w : World) (e : Ending) (w' : World) : Prop :=
  ∃ v, e = .returned (.tuple #[.agg (arr 122 (pas (dayG h p W H n))), v]) ∧ Lst w [] 1 v n (yV h p W H) w'

set_option maxRecDepth 100000 in
set_option maxHeartbeats 1000000 in
theorem live_any (h p : Nat → Int) (e : growB h = true) (hp : GrassOk p) (hf : Fits p) (W H : Nat) (hW : 1 ≤ W ∧ W ≤ 10) (hH : 1 ≤ H ∧ H ≤ 10) (bv bg bl cc : Nat) (F : Nat → Value) (hcc : W * H ≤ cc) (hF : ∀ j, j < W * H * 2 → F j = sps (sC W) j) (n : Nat) (hn : n ≤ 365) (b0 : Base) (w : World) (hM0 : Mem b0 (dayK h (W * H) bv bg bl cc F) w) :
    Calls Tryd.prog 61 #[.agg (arr 122 (pas p)), .int .i64 n, dayV bv bg] w (GivesLive h p W H n w) := by
  have hM : Mem w (dayK h (W * H) bv bg bl cc F) w := hM0.base (Below.refl _ _)
  have HT := Lib.hid (fun k (b0 : Base) w hM0 => day_step h p e hp hf W H hW hH bv bg bl cc F hcc hF k b0 w hM0)
  clear hM0 hF hcc
  unfold dayV
  have tk_b3 : True := trivial; have tk_b6 : True := trivial
  go_enter Tryd.func61, Tryd.ntmps61
  go_wp2_with (first | (have _t := tk_b3; refine wpList_box rfl _ _ rfl _ _ rfl hM ?_; intro b3 W' hb3 hM'; clear hM tk_b3; have hM := hM'; clear hM') | (have _t := tk_b6; refine wpList_zero rfl _ rfl (zeroTab _ _ _ rfl) hM ?_; intro b6 W' hb6 hM'; clear hM tk_b6; have hM := hM'; clear hM'))
  go_loopw [8, 11] (fun v i wr => LiveIn w h p W H n b6 b3 (dayK h (W * H) bv bg bl cc F) v i wr) (fun _ i _ => n - (intOf i).toNat)
  case atStart => exact ⟨0, by omega, rfl, .inl ⟨rfl, rfl, hM⟩⟩
  case round =>
    clear hM
    obtain ⟨k, hk, rfl, hL⟩ := hrel
    by_cases hlt : k < n
    · have lk : (k : Int) < n := by omega
      rcases hL with ⟨rfl, hk0, hM⟩ | ⟨b, c, F1, rfl, hb, hkc, hF1, hM⟩
      · subst hk0
        have ln : (0 : Int) < n := by omega
        have Hq : Hid (∀ j, j < 1 → (fun _ : Nat => Value.int .i64 (yieldD h p W H 0)) j = yV h p W H j) := Lib.hid (fun j hj => by rw [show j = 0 by omega]; rfl)
        have tk_r1 : True := trivial; have tk_r2 : True := trivial; have tk_r3 : True := trivial; have tk_p1 : True := trivial
        go_wp2_with (first | (have _t := tk_r1; (refine wpList_get rfl _ _ rfl _ _ rfl hM 1 rfl (rowTab _ _ rfl) (by omega) ?_); clear tk_r1) | (go_at_call 80; (with_reducible refine (HT.out 0 (Base.of w) _ hM.drop.drop).mono ?_); rintro e W' ⟨rfl, hb'⟩; have hM' := hM.call hb'; clear hM hb'; have hM := hM'; clear hM') | (have _t := tk_r2; (refine wpList_lay rfl _ _ _ rfl _ _ rfl _ _ rfl hM 1 rfl (by assumption) (rowTab _ _ rfl) (by omega) ?_ ?_; (first | (intro _ _; rfl) | (intro k _; exact h1 _) | (intro k _; simp only [lay, upd]; (repeat' split) <;> first | exact h1 _ | rfl)); intro W' hM'; clear hM; have hM := hM'; clear hM'; simp only [List.set] at hM); clear tk_r2) | (have _t := tk_r3; refine wpList_lit1 rfl _ _ _ rfl (.int .i64 (yieldD h p W H 0)) rfl rfl _ ints_under ints_info2 hM ?_; intro bn W' hbn hM'; clear hM tk_r3; have hM := hM'; clear hM') | (have _t := tk_p1; refine wpList_push0 rfl _ _ _ rfl _ 1 _ _ ints_under ints_info rfl (by omega) rfl _ _ rfl hM (yV h p W H) Hq.out ?_; intro bL cL FL W' hbL hcL hFL hM'; clear hM tk_p1; have hM := hM'; clear hM'))
        have hM2 := hM.re 2 rfl (pas (dayG h p W H 1)) (lay_pasy _ _)
        simp only [List.set] at hM2
        go_roundw
        case rel => exact (⟨1, by omega, by go_num, .inr ⟨bL, cL, FL, rfl, hbL, hcL, hFL, hM2⟩⟩ : LiveIn w h p W H n b6 b3 _ _ _ _)
        case measure => simp [intOf]; omega
      · have Hq : Hid (∀ j, j < 1 → (fun _ : Nat => Value.int .i64 (yieldD h p W H k)) j = yV h p W H (k * 1 + j)) := Lib.hid (fun j hj => by rw [show k * 1 + j = k by omega]; rfl)
        have Hf := Lib.hid hF1
        clear hF1
        have tk_r1 : True := trivial; have tk_r2 : True := trivial; have tk_r3 : True := trivial; have tk_p1 : True := trivial
        go_wp2_with (first | (have _t := tk_r1; (refine wpList_get rfl _ _ rfl _ _ rfl hM 2 rfl (rowTab _ _ rfl) (by omega) ?_); clear tk_r1) | (go_at_call 80; (with_reducible refine (HT.out k (Base.of w) _ hM.drop.drop.drop).mono ?_); rintro e W' ⟨rfl, hb'⟩; have hM' := hM.call hb'; clear hM hb'; have hM := hM'; clear hM') | (have _t := tk_r2; (refine wpList_lay rfl _ _ _ rfl _ _ rfl _ _ rfl hM 2 rfl (by assumption) (rowTab _ _ rfl) (by omega) ?_ ?_; (first | (intro _ _; rfl) | (intro k _; exact h1 _) | (intro k _; simp only [lay, upd]; (repeat' split) <;> first | exact h1 _ | rfl)); intro W' hM'; clear hM; have hM := hM'; clear hM'; simp only [List.set] at hM); clear tk_r2) | (have _t := tk_r3; refine wpList_lit1 rfl _ _ _ rfl (.int .i64 (yieldD h p W H k)) rfl rfl _ ints_under ints_info2 hM ?_; intro bn W' hbn hM'; clear hM tk_r3; have hM := hM'; clear hM') | (have _t := tk_p1; refine wpList_push1 rfl _ _ _ rfl _ 1 _ _ ints_under ints_info rfl (by omega) _ _ _ _ rfl hb hkc (by omega) _ _ rfl (fun _ _ => rfl) hM (yV h p W H) Hf.out Hq.out ?_; intro bL cL FL W' hbL hcL hFL hM'; clear hM tk_p1; have hM := hM'; clear hM'))
        have hM2 := hM.re 2 rfl (pas (dayG h p W H (k + 1))) (lay_pasy _ _)
        simp only [List.set] at hM2
        go_roundw
        case rel => exact (⟨k + 1, by omega, by go_num, .inr ⟨bL, cL, FL, rfl, hbL, hcL, hFL, hM2⟩⟩ : LiveIn w h p W H n b6 b3 _ _ _ _)
        case measure => simp [intOf]; omega
    · obtain rfl : k = n := by omega
      rcases hL with ⟨rfl, hk0, hM⟩ | ⟨b, c, F1, rfl, hb, hkc, hF1, hM⟩
      · subst hk0
        go_wp2_with (first | (refine wpList_get rfl _ _ rfl _ _ rfl hM 1 rfl (rowTab _ _ rfl) (by omega) ?_) | (refine wpList_lay rfl _ _ _ rfl _ _ rfl _ _ rfl hM 0 rfl (by assumption) (rowTab _ _ rfl) (by omega) ?_ ?_; (first | (intro _ _; rfl) | (intro k _; exact h1 _) | (intro k _; simp only [lay, upd]; (repeat' split) <;> first | exact h1 _ | rfl)); intro W' hM'; clear hM; have hM := hM'; clear hM'; simp only [List.set] at hM))
        refine bodyPost_ret (results_at2 rfl _ rfl ((hM.ats 0 _ _ _ rfl).congr (lay_pasy _ _)) (rowTab _ _ rfl) _ rfl) rfl ?_
        exact ⟨_, rfl, .inl ⟨rfl, rfl, Mem.start hM.good⟩⟩
      · have hb6 : w.heap.size ≤ b6 := by assumption
        go_wp2_with (first | (refine wpList_get rfl _ _ rfl _ _ rfl hM 2 rfl (rowTab _ _ rfl) (by omega) ?_) | (refine wpList_lay rfl _ _ _ rfl _ _ rfl _ _ rfl hM 1 rfl (by assumption) (rowTab _ _ rfl) (by omega) ?_ ?_; (first | (intro _ _; rfl) | (intro k _; exact h1 _) | (intro k _; simp only [lay, upd]; (repeat' split) <;> first | exact h1 _ | rfl)); intro W' hM'; clear hM; have hM := hM'; clear hM'; simp only [List.set] at hM))
        refine bodyPost_ret (results_at2 rfl _ rfl ((hM.ats 1 _ _ _ rfl).congr (lay_pasy _ _)) (rowTab _ _ rfl) _ rfl) rfl ?_
        exact ⟨_, rfl, (Lst.only (.inr ⟨b, c, F1, rfl, hb, hkc, hF1, hM⟩))⟩

set_option maxRecDepth 100000 in
set_option maxHeartbeats 1000000 in
theorem sumOf_any (yl : Nat → Int) (n b c N : Nat) (F : Nat → Value) (hn : n ≤ 365) (hN : n ≤ N) (hF : ∀ j, j < n * 1 → F j = .int .i64 (yl j)) (hs : ∀ k, k ≤ n → -1000000 ≤ sumN k yl ∧ sumN k yl ≤ 1000000) (w : World) (hA : At w b N F) :
    Calls Tryd.prog 63 #[.slice (some ⟨b, 0, none⟩) n c] w fun e w' => e = .returned (.int .i64 (sumN n yl)) ∧ Below w.heap.size w w' := by
  have hM : Mem w [(b, N, F)] w := (Mem.nil w).old hA (fun i p h => by simp at h)
  have Hs := Lib.hid hs
  have HF := Lib.hid hF
  clear hA hs hF
  go_enter Tryd.func63, Tryd.ntmps63
  go_wp2
  go_loopw [3, 8] (fun s i wr => ∃ k : Nat, k ≤ n ∧ s = .int .i64 (sumN k yl) ∧ i = .int .i64 k ∧ Mem w [(b, N, F)] wr) (fun _ i _ => n - (intOf i).toNat)
  case atStart => exact ⟨0, by omega, rfl, rfl, hM⟩
  case round =>
    clear hM
    obtain ⟨k, hk, rfl, rfl, hM⟩ := hrel
    by_cases hlt : k < n
    · have lk : (k : Int) < n := by omega
      have e0 : F k = .int .i64 (yl k) := HF.out k (by omega)
      have e1 : F (k * 1) = .int .i64 (yl k) := by rw [Nat.mul_one]; exact e0
      have s1 := Hs.out (k + 1) (by omega)
      have c0 : IntKind.i64.wrap (sumN k yl + yl k) = sumN (k + 1) yl := IntWalk.i64_in _ (by rw [sumN] at s1; omega)
      clear s1
      go_wp2_with (first | (refine wpList_get1 rfl _ _ rfl _ _ rfl hM 0 rfl (cellTab _ rfl) (by omega) _ (by first | exact e0 | exact e1) ?_))
      go_roundw
      case rel => exact ⟨k + 1, by omega, rfl, by go_num, hM⟩
      case measure => simp [intOf]; omega
    · obtain rfl : k = n := by omega
      go_wp2
      go_ret
      exact ⟨rfl, hM.below⟩
theorem sumOf_nil (w : World) :
    Calls Tryd.prog 63 #[.slice none 0 0] w fun e w' => e = .returned (.int .i64 0) ∧ Below w.heap.size w w' := by
  go_enter Tryd.func63, Tryd.ntmps63
  go_wp2
  refine wp_loop_rounds 1 ?_
  rw [rounds_succ]
  go_wp2
  go_ret
  exact ⟨rfl, Below.refl _ _⟩

set_option maxRecDepth 100000 in
set_option maxHeartbeats 1000000 in
theorem checkGrowing_any {a : Nat → Addr} (p : Nat → Int) (hp : Fits p) (h : Nat → Int) (hF : FitsW h) (w : World) (hE : Errs a w) :
    Calls Tryd.prog 60 #[.agg (arr 122 (pas p)), .agg (arr 12 (gro h)), .slice none 0 0] w fun e w' => e = .returned (errO (a 0) (!(okB p && growB h))) ∧ Below w.heap.size w w' := by
  have hM := Mem.nil w
  have HP := Lib.hid hp
  have HF := Lib.hid hF
  have HE := Lib.hid hE
  clear hp hF hE
  have tk_b1 : True := trivial; have tk_b2 : True := trivial; have tk_g1 : True := trivial; have tk_g2 : True := trivial
  cases hv : growB h
  · have Hr : Hid (errO (a 0) (!(okB p && false)) = errV (a 0)) := Lib.hid (by rw [Bool.and_false]; rfl)
    rw [Hr.out]
    have Hv := Lib.hid hv
    clear hv
    go_enter Tryd.func60, Tryd.ntmps60
    go_wp2_with (first | (have _t := tk_b1; refine wpList_box rfl _ _ rfl _ _ rfl hM ?_; intro b1 W' hb1 hM'; clear hM tk_b1; have hM := hM'; clear hM') | (have _t := tk_b2; refine wpList_box rfl _ _ rfl _ _ rfl hM ?_; intro b2 W' hb2 hM'; clear hM tk_b2; have hM := hM'; clear hM') | (have _t := tk_g1; (refine wpList_get rfl _ _ rfl _ _ rfl hM 0 rfl (rowTab _ _ rfl) (by omega) ?_); clear tk_g1) | (go_at_call 37; (with_reducible refine (checkGrowth_no h HF.out _ (HE.out.below hM.below) Hv.out).mono ?_); rintro e W' ⟨rfl, hb'⟩; have hM' := hM.call hb'; clear hM hb'; have hM := hM'; clear hM'))
    go_ret
    exact ⟨rfl, hM.below⟩
  · rw [Bool.and_true]
    have Hv := Lib.hid hv
    clear hv
    go_enter Tryd.func60, Tryd.ntmps60
    go_wp2_with (first | (have _t := tk_b1; refine wpList_box rfl _ _ rfl _ _ rfl hM ?_; intro b1 W' hb1 hM'; clear hM tk_b1; have hM := hM'; clear hM') | (have _t := tk_b2; refine wpList_box rfl _ _ rfl _ _ rfl hM ?_; intro b2 W' hb2 hM'; clear hM tk_b2; have hM := hM'; clear hM') | (have _t := tk_g1; (refine wpList_get rfl _ _ rfl _ _ rfl hM 0 rfl (rowTab _ _ rfl) (by omega) ?_); clear tk_g1) | (go_at_call 37; (with_reducible refine (checkGrowth_yes h HF.out _ Hv.out).mono ?_); rintro e W' ⟨rfl, hb'⟩; have hM' := hM.call hb'; clear hM hb'; have hM := hM'; clear hM') | (have _t := tk_g2; (refine wpList_get rfl _ _ rfl _ _ rfl hM 1 rfl (rowTab _ _ rfl) (by omega) ?_); clear tk_g2) | (go_at_call 52; (with_reducible refine (checkCells0_any p HP.out _ (HE.out.below hM.below)).mono ?_); rintro e W' ⟨rfl, hb'⟩; have hM' := hM.call hb'; clear hM hb'; have hM := hM'; clear hM'))
    go_ret
    exact ⟨rfl, hM.below⟩
end Go.Proofs.YtflobpbfpkoghaaDoor

/-
  impl.GrowDays by contract.
-/
namespace Go.Proofs.YtflobpbfpkoghaaDoor
open Go Go.RowKit Go.BigFrame

/-- Behind a call that makes blocks of its own. -/
theorem Mem.join {b0 : Base} {L M : Blocks} {X X' : World} (hM : Mem b0 L X) (hN : Mem (Base.of X) M X') (hge : ∀ (i : Nat) (p : Nat × Nat × (Nat → Value)), M[i]? = some p → X.heap.size ≤ p.1) : Mem b0 (M ++ L) X' := by
  have hC := hM.call hN.below
  have off : ∀ (i j : Nat) (p q : Nat × Nat × (Nat → Value)), M[i]? = some p → L[j]? = some q → p.1 ≠ q.1 := fun i j p q hi hj e => by
    have h1 := hge i p hi
    have h2 := (hM.ats j q.1 q.2.1 q.2.2 hj).lt
    omega
  refine ⟨hC.good, fun i b n f hi => ?_, fun i j p q hi hj hne => ?_⟩
  · by_cases hl : i < M.length
    · rw [List.getElem?_append_left hl] at hi; exact hN.ats i b n f hi
    · rw [List.getElem?_append_right (by omega)] at hi; exact hC.ats _ b n f hi
  · by_cases hl : i < M.length
    · rw [List.getElem?_append_left hl] at hi
      by_cases hl' : j < M.length
      · rw [List.getElem?_append_left hl'] at hj; exact hN.apart i j p q hi hj hne
      · rw [List.getElem?_append_right (by omega)] at hj; exact off _ _ p q hi hj
    · rw [List.getElem?_append_right (by omega)] at hi
      by_cases hl' : j < M.length
      · rw [List.getElem?_append_left hl'] at hj; exact (off _ _ q p hj hi).symm
      · rw [List.getElem?_append_right (by omega)] at hj; exact hC.apart _ _ p q hi hj (by omega)

/-- What a day of growing is told by. -/
structure DayB where
  bv : Nat
  bg : Nat
  bl : Nat
  cc : Nat
  F : Nat → Value
theorem growing_step (h p : Nat → Int) (W H : Nat) (hW : 1 ≤ W ∧ W ≤ 10) (hH : 1 ≤ H ∧ H ≤ 10) (p0 : p 0 = W) (p1 : p 1 = H) {b0 : Base} {L : Blocks} (w : World) (hM : Mem b0 L w) :
    Calls Tryd.prog 62 #[.agg (arr 122 (pas p)), .agg (arr 12 (gro h))] w fun e w' => ∃ y : DayB, e = .returned (dayV y.bv y.bg) ∧ (W * H ≤ y.cc ∧ ∀ j, j < W * H * 2 → y.F j = sps (sC W) j) ∧ Mem b0 (dayK h (W * H) y.bv y.bg y.bl y.cc y.F ++ L) w' :=
  (growing_any h p W H hW hH p0 p1 w).mono fun e w' ⟨bv, bg, bl, cc, F, he, h1, h2, h3, hcc, hF, hN⟩ => ⟨⟨bv, bg, bl, cc, F⟩, he, ⟨hcc, hF⟩, hM.join hN fun i q hi => by
    match i, hi with
    | 0, hi => simp at hi; rw [← hi]; exact h1
    | 1, hi => simp at hi; rw [← hi]; exact h2
    | 2, hi => simp at hi; rw [← hi]; exact h3
    | i + 3, hi => simp at hi⟩
/-- A list of n cells R: none, or in a block. -/
def GoodL (n : Nat) (R : Nat → Value) (y : Value × Blocks) : Prop := (n = 0 ∧ y.1 = .slice none 0 0 ∧ y.2 = []) ∨ ∃ b c F, n ≤ c ∧ (∀ j, j < n * 1 → F j = R j) ∧ y.1 = .slice (some ⟨b, 0, none⟩) n c ∧ y.2 = [(b, c * 1, F)]
theorem live_step (h p : Nat → Int) (e : growB h = true) (hp : GrassOk p) (hf : Fits p) (W H : Nat) (hW : 1 ≤ W ∧ W ≤ 10) (hH : 1 ≤ H ∧ H ≤ 10) (bv bg bl cc : Nat) (F : Nat → Value) (hcc : W * H ≤ cc) (hF : ∀ j, j < W * H * 2 → F j = sps (sC W) j) (n : Nat) (hn : n ≤ 365) {b0 : Base} {L : Blocks} (w : World) (hM : Mem b0 L w) (hK : Mem b0 (dayK h (W * H) bv bg bl cc F) w) :
    Calls Tryd.prog 61 #[.agg (arr 122 (pas p)), .int .i64 n, dayV bv bg] w fun e w' => ∃ y : Value × Blocks, e = .returned (.tuple #[.agg (arr 122 (pas (dayG h p W H n))), y.1]) ∧ GoodL n (yV h p W H) y ∧ Mem b0 (y.2 ++ L) w' :=
  (live_any h p e hp hf W H hW hH bv bg bl cc F hcc hF n hn b0 w hK).mono fun r w' ⟨v, he, hL⟩ => by
    rcases hL with ⟨rfl, hn0, hN⟩ | ⟨b, c, F1, rfl, hb, hc, hF1, hN⟩
    · exact ⟨(.slice none 0 0, []), he, .inl ⟨hn0, rfl, rfl⟩, hM.join hN fun i q hi => by simp at hi⟩
    · refine ⟨(.slice (some ⟨b, 0, none⟩) n c, [(b, c * 1, F1)]), he, .inr ⟨b, c, F1, hc, hF1, rfl, rfl⟩, hM.join hN fun i q hi => ?_⟩
      match i, hi with
      | 0, hi => simp at hi; rw [← hi]; exact hb
      | i + 1, hi => simp at hi

set_option maxRecDepth 100000 in
set_option maxHeartbeats 4000000 in
theorem implGrowDays_any {a : Nat → Addr} (p : Nat → Int) (hp : Fits p) (h : Nat → Int) (hF : FitsW h) (n : Int) (w : World) (hE : Errs a w) :
    Calls Tryd.prog 27 #[.agg (arr 122 (pas p)), .agg (arr 12 (gro h)), .int .i64 n] w fun e w' => e = .returned (growD p h n) ∧ Below w.heap.size w w' := by
  have hM := Mem.nil w
  have HP := Lib.hid hp
  have HF := Lib.hid hF
  have HE := Lib.hid hE
  clear hp hF hE
  have tk_b1 : True := trivial; have tk_b2 : True := trivial; have tk_b3 : True := trivial; have tk_g1 : True := trivial; have tk_g2 : True := trivial; have tk_q1 : True := trivial
  cases ho : (okB p && growB h)
  · have Hr := Lib.hid (growD_no (n := n) ho)
    have Hc : Hid (errO (a 0) (!(okB p && growB h)) = errV (a 0)) := Lib.hid (by rw [ho]; rfl)
    clear ho
    go_enter Tryd.func27, Tryd.ntmps27
    go_wp2_with (first | (have _t := tk_b1; refine wpList_box rfl _ _ rfl _ _ rfl hM ?_; intro b1 W' hb1 hM'; clear hM tk_b1; have hM := hM'; clear hM') | (have _t := tk_b2; refine wpList_box rfl _ _ rfl _ _ rfl hM ?_; intro b2 W' hb2 hM'; clear hM tk_b2; have hM := hM'; clear hM') | (have _t := tk_b3; refine wpList_zero rfl _ rfl (zeroTab _ _ _ rfl) hM ?_; intro b3 W' hb3 hM'; clear hM tk_b3; have hM := hM'; clear hM') | (have _t := tk_g1; (refine wpList_get rfl _ _ rfl _ _ rfl hM 2 rfl (rowTab _ _ rfl) (by omega) ?_); clear tk_g1) | (have _t := tk_g2; (refine wpList_get rfl _ _ rfl _ _ rfl hM 1 rfl (rowTab _ _ rfl) (by omega) ?_); clear tk_g2) | (go_at_call 60; (with_reducible refine (checkGrowing_any p HP.out h HF.out _ (HE.out.below hM.below)).mono ?_); rintro e W' ⟨rfl, hb'⟩; rw [Hc.out]; have hM' := hM.call hb'; clear hM hb'; have hM := hM'; clear hM') | (go_at_call 38; (with_reducible refine (codeOf_0 (HE.out.below hM.below)).mono ?_); rintro e W' ⟨rfl, rfl⟩) | (have _t := tk_q1; (refine wpList_lay rfl _ _ _ rfl _ _ rfl _ _ rfl hM 0 rfl (by assumption) (rowTab _ _ rfl) (by omega) ?_ ?_; (first | (intro _ _; rfl) | (intro k _; exact h1 _) | (intro k _; simp only [lay, upd]; (repeat' split) <;> first | exact h1 _ | rfl)); intro W' hM'; clear hM; have hM := hM'; clear hM'; simp only [List.set] at hM); clear tk_q1))
    refine bodyPost_ret (results_at3 rfl _ rfl ((hM.ats 0 _ _ _ rfl).congr (lay_zP _)) (rowTab _ _ rfl)) rfl ?_
    exact ⟨ret_pas3 Hr.out, hM.below⟩
  have Hc : Hid (errO (a 0) (!(okB p && growB h)) = .nilIface) := Lib.hid (by rw [ho]; rfl)
  cases hi : inB 0 365 n
  · have Hr := Lib.hid (growD_out ho hi)
    have Hi := Lib.hid hi
    clear ho hi
    go_enter Tryd.func27, Tryd.ntmps27
    go_wp2_with (first | (have _t := tk_b1; refine wpList_box rfl _ _ rfl _ _ rfl hM ?_; intro b1 W' hb1 hM'; clear hM tk_b1; have hM := hM'; clear hM') | (have _t := tk_b2; refine wpList_box rfl _ _ rfl _ _ rfl hM ?_; intro b2 W' hb2 hM'; clear hM tk_b2; have hM := hM'; clear hM') | (have _t := tk_b3; refine wpList_zero rfl _ rfl (zeroTab _ _ _ rfl) hM ?_; intro b3 W' hb3 hM'; clear hM tk_b3; have hM := hM'; clear hM') | (have _t := tk_g1; (refine wpList_get rfl _ _ rfl _ _ rfl hM 2 rfl (rowTab _ _ rfl) (by omega) ?_); clear tk_g1) | (have _t := tk_g2; (refine wpList_get rfl _ _ rfl _ _ rfl hM 1 rfl (rowTab _ _ rfl) (by omega) ?_); clear tk_g2) | (go_at_call 60; (with_reducible refine (checkGrowing_any p HP.out h HF.out _ (HE.out.below hM.below)).mono ?_); rintro e W' ⟨rfl, hb'⟩; rw [Hc.out]; have hM' := hM.call hb'; clear hM hb'; have hM := hM'; clear hM') | (go_at_call 47; (with_reducible refine (checkUpTo_no _ _ _ (HE.out.below hM.below) Hi.out).mono ?_); rintro e W' ⟨rfl, hb'⟩; have hM' := hM.call hb'; clear hM hb'; have hM := hM'; clear hM') | (go_at_call 38; (with_reducible refine (codeOf_1 (HE.out.below hM.below)).mono ?_); rintro e W' ⟨rfl, rfl⟩) | (have _t := tk_q1; (refine wpList_lay rfl _ _ _ rfl _ _ rfl _ _ rfl hM 0 rfl (by assumption) (rowTab _ _ rfl) (by omega) ?_ ?_; (first | (intro _ _; rfl) | (intro k _; exact h1 _) | (intro k _; simp only [lay, upd]; (repeat' split) <;> first | exact h1 _ | rfl)); intro W' hM'; clear hM; have hM := hM'; clear hM'; simp only [List.set] at hM); clear tk_q1))
    refine bodyPost_ret (results_at3 rfl _ rfl ((hM.ats 0 _ _ _ rfl).congr (lay_zP _)) (rowTab _ _ rfl)) rfl ?_
    exact ⟨ret_pas3 Hr.out, hM.below⟩
  have hb := inB_true hi
  obtain ⟨n, rfl⟩ : ∃ m : Nat, n = m := ⟨n.toNat, by omega⟩
  have ho' := ho
  rw [Bool.and_eq_true] at ho'
  obtain ⟨W, H, p0, p1, hW, hH⟩ := ok_sizes2 ho'.1
  have Hr := Lib.hid (growD_ok ho hi p0 p1)
  have Hi := Lib.hid hi
  have Hp := Lib.hid (ok_in ho'.1)
  have He := Lib.hid ho'.2
  have hn : n ≤ 365 := by omega
  have hz : Hid (n = 0 → gsum (dayG h p W H n) - gsum p = 0) := Lib.hid (fun e => by rw [e]; show gsum p - gsum p = 0; omega)
  have hS : ∀ (b c : Nat) (F : Nat → Value) (w : World), n ≤ c → (∀ j, j < n * 1 → F j = yV h p W H j) → At w b (c * 1) F → Calls Tryd.prog 63 #[.slice (some ⟨b, 0, none⟩) n c] w fun e w' => e = .returned (.int .i64 (gsum (dayG h p W H n) - gsum p)) ∧ Below w.heap.size w w' := fun b c F w hc hF hA => by
    rw [← yield_sum]
    exact sumOf_any (yieldD h p W H) n b c (c * 1) F hn (by omega) hF (fun k hk => by
      rw [yield_sum]
      have s1 := gsum_in (dayG_in He.out Hp.out W H k)
      have s2 := gsum_in Hp.out
      omega) w hA
  have HS := Lib.hid hS
  have HG := Lib.hid (fun (b0 : Base) (L : Blocks) (w : World) (hM : Mem b0 L w) => growing_step h p W H hW hH p0 p1 w hM)
  have HL := Lib.hid (fun (y : DayB) (hy : W * H ≤ y.cc ∧ ∀ j, j < W * H * 2 → y.F j = sps (sC W) j) (b0 : Base) (L : Blocks) (w : World) (hM : Mem b0 L w) (hK : Mem b0 (dayK h (W * H) y.bv y.bg y.bl y.cc y.F) w) => live_step h p He.out Hp.out HP.out W H hW hH y.bv y.bg y.bl y.cc y.F hy.1 hy.2 n hn w hM hK)
  clear ho hi ho' hS
  go_enter Tryd.func27, Tryd.ntmps27
  go_wp2_with (first | (have _t := tk_b1; refine wpList_box rfl _ _ rfl _ _ rfl hM ?_; intro b1 W' hb1 hM'; clear hM tk_b1; have hM := hM'; clear hM') | (have _t := tk_b2; refine wpList_box rfl _ _ rfl _ _ rfl hM ?_; intro b2 W' hb2 hM'; clear hM tk_b2; have hM := hM'; clear hM') | (have _t := tk_b3; refine wpList_zero rfl _ rfl (zeroTab _ _ _ rfl) hM ?_; intro b3 W' hb3 hM'; clear hM tk_b3; have hM := hM'; clear hM') | (have _t := tk_g1; (refine wpList_get rfl _ _ rfl _ _ rfl hM 2 rfl (rowTab _ _ rfl) (by omega) ?_); clear tk_g1) | (have _t := tk_g2; (refine wpList_get rfl _ _ rfl _ _ rfl hM 1 rfl (rowTab _ _ rfl) (by omega) ?_); clear tk_g2) | (go_at_call 60; (with_reducible refine (checkGrowing_any p HP.out h HF.out _ (HE.out.below hM.below)).mono ?_); rintro e W' ⟨rfl, hb'⟩; rw [Hc.out]; have hM' := hM.call hb'; clear hM hb'; have hM := hM'; clear hM') | (go_at_call 47; (with_reducible refine (checkUpTo_yes _ _ _ Hi.out).mono ?_); rintro e W' ⟨rfl, hb'⟩; have hM' := hM.call hb'; clear hM hb'; have hM := hM'; clear hM'))
  generalize gsum (dayG h p W H n) - gsum p = X at *
  generalize dayG h p W H n = D at *
  ((try simp only [Act.put, List.setIfInBounds_toArray, List.set_cons_succ, List.set_cons_zero]); refine region_readsG [0, 1, 2, 3] [0, 1, 2, 3, 6, 7, 8] #[true, true, true, true, false, false, false, false, false, false, false, false] 8 (by decide) (by kernel_rfl) (by kernel_rfl) (by kernel_rfl) hM ?_; clear hM; (repeat (refine qs_plain rfl rfl ?_; first | (refine b_get _ _ rfl _ _ rfl 2 rfl (rowTab _ _ rfl) (by omega) ?_; (simp only [Act.put, List.setIfInBounds_toArray, List.set_cons_succ, List.set_cons_zero])) | (refine b_get _ _ rfl _ _ rfl 1 rfl (rowTab _ _ rfl) (by omega) ?_; (simp only [Act.put, List.setIfInBounds_toArray, List.set_cons_succ, List.set_cons_zero])) | (refine b_val ?_; apply Exists.intro; refine ⟨fun W => ?_, ?_⟩; (go_simp; rfl); (simp only [Act.put, List.setIfInBounds_toArray, List.set_cons_succ, List.set_cons_zero])))); (with_reducible refine qs_nil ?_))
  (refine mix_two (i := 4) (j := 9) (by kernel_rfl) rfl rfl (by kernel_rfl) (by kernel_rfl) rfl rfl ?_ ?_)
  · refine step_call_more (β := DayB) (fun y => dayV y.bv y.bg) (fun y => dayK h (W * H) y.bv y.bg y.bl y.cc y.F) (fun y => W * H ≤ y.cc ∧ ∀ j, j < W * H * 2 → y.F j = sps (sC W) j) ?_
    apply Exists.intro; apply Exists.intro; refine ⟨fun W => ?_, fun W hM => ?_, ?_⟩
    · go_simp; exact ⟨rfl, rfl⟩
    · exact HG.out _ _ _ hM
    intro y hy
    (try simp only [Act.put, List.setIfInBounds_toArray, List.set_cons_succ, List.set_cons_zero])
    (refine mix_two (i := 5) (j := 9) (by kernel_rfl) rfl rfl (by kernel_rfl) (by kernel_rfl) rfl rfl ?_ ?_)
    · refine step_call_more (β := Value × Blocks) (fun z => .tuple #[.agg (arr 122 (pas D)), z.1]) (fun z => z.2) (GoodL n (yV h p W H)) ?_
      apply Exists.intro; apply Exists.intro; refine ⟨fun W => ?_, fun W hM => ?_, ?_⟩
      · go_simp; exact ⟨rfl, rfl⟩
      · exact HL.out y hy _ _ _ hM (hM.three 0 1 2 rfl rfl rfl (by omega) (by omega) (by omega))
      rintro ⟨v, Bs⟩ hz2
      rcases hz2 with ⟨hn0, hv, hB⟩ | ⟨bL, cL, FL, hcL, hFL, hv, hB⟩ <;> dsimp only at hv hB <;> subst hv hB <;> (try simp only [Act.put, List.setIfInBounds_toArray, List.set_cons_succ, List.set_cons_zero])
      · refine mixQ_reads (s1 := #[true, true, true, true, true, true, true, true, true, false, false, false]) (g := 3) (by kernel_rfl) [6, 7, 8] _ _ (by decide) (by kernel_rfl) ?_
        (repeat (refine qs_plain rfl rfl ?_; first | (refine b_val ?_; apply Exists.intro; refine ⟨fun W => ?_, ?_⟩; (go_simp; rfl); (simp only [Act.put, List.setIfInBounds_toArray, List.set_cons_succ, List.set_cons_zero])))); (with_reducible refine qs_nil ?_)
        (refine mix_one (i := 9) (by kernel_rfl) rfl (by kernel_rfl) rfl ?_)
        (refine step_zero _ rfl (zeroTab _ _ _ rfl) ?_; intro b11 hb11; (simp only [Act.put, List.setIfInBounds_toArray, List.set_cons_succ, List.set_cons_zero]))
        (refine mix_one (i := 10) (by kernel_rfl) rfl (by kernel_rfl) rfl ?_)
        (refine step_lay _ _ _ rfl _ _ rfl _ _ rfl 0 rfl (by assumption) (rowTab _ _ rfl) (by omega) ?_ ?_; (first | (intro _ _; rfl) | (intro k _; exact h1 _)); simp only [List.set]; (simp only [Act.put, List.setIfInBounds_toArray, List.set_cons_succ, List.set_cons_zero]))
        (refine mix_one (i := 11) (by kernel_rfl) rfl (by kernel_rfl) rfl ?_)
        (refine step_val ?_; apply Exists.intro; refine ⟨fun W => ?_, ?_⟩; (go_simp; rfl); (simp only [Act.put, List.setIfInBounds_toArray, List.set_cons_succ, List.set_cons_zero]))
        (refine mix_end (by kernel_rfl) ?_; intro W' hM; simp only [List.cons_append, List.nil_append] at hM)
        have hM2 := hM.three 0 4 5 rfl rfl rfl (by omega) (by omega) (by omega)
        have hM3 := hM2.re 0 rfl (pas D) (lay_pasy _ _)
        simp only [List.set_cons_zero] at hM3
        clear hM hM2
        have hM := hM3
        clear hM3
        go_wp2
        ((try simp only [Act.put, List.setIfInBounds_toArray, List.set_cons_succ, List.set_cons_zero]); refine region_head_mem (m := 3) (by kernel_rfl) (by kernel_rfl) hM ?_; clear hM; simp only [List.take_succ_cons, List.take_zero, List.drop_succ_cons, List.drop_zero]; (repeat (first | go_big_quiet_skip | (go_big_quiet_want; first | (refine quiet_get _ _ rfl _ _ rfl 0 rfl (rowTab _ _ rfl) (by omega) ?_; (simp only [Act.put, List.setIfInBounds_toArray, List.set_cons_succ, List.set_cons_zero]); go_big_quiet_on) | (refine quiet_call ?_; apply Exists.intro; apply Exists.intro; apply Exists.intro; refine ⟨fun W => ?_, fun W hM => ?_, ?_⟩; (go_simp; exact ⟨rfl, rfl⟩); (with_reducible exact sumOf_nil W); (simp only [Act.put, List.setIfInBounds_toArray, List.set_cons_succ, List.set_cons_zero]); go_big_quiet_on) | (refine quiet_val ?_; apply Exists.intro; refine ⟨fun W => ?_, ?_⟩; (go_simp; rfl); (simp only [Act.put, List.setIfInBounds_toArray, List.set_cons_succ, List.set_cons_zero]); go_big_quiet_on)))); (with_reducible refine wpQuiet_nil ?_); intro W' hM)
        go_wp2_with (first | (refine wpList_lay rfl _ _ _ rfl _ _ rfl _ _ rfl hM 1 rfl (by assumption) (rowTab _ _ rfl) (by omega) ?_ ?_; (first | (intro _ _; rfl) | (intro k _; exact h1 _) | (intro k _; simp only [lay, upd]; (repeat' split) <;> first | exact h1 _ | rfl)); intro W' hM'; clear hM; have hM := hM'; clear hM'; simp only [List.set] at hM))
        refine bodyPost_ret (results_at3 rfl _ rfl ((hM.ats 1 _ _ _ rfl).congr (by first | exact lay_pasz _ _ | exact lay_pasy _ _)) (rowTab _ _ rfl)) rfl ?_
        exact ⟨ret_pas3 (Hr.out.trans (by rw [hz.out hn0])), hM.below⟩
      · refine mixQ_reads (s1 := #[true, true, true, true, true, true, true, true, true, false, false, false]) (g := 3) (by kernel_rfl) [6, 7, 8] _ _ (by decide) (by kernel_rfl) ?_
        (repeat (refine qs_plain rfl rfl ?_; first | (refine b_val ?_; apply Exists.intro; refine ⟨fun W => ?_, ?_⟩; (go_simp; rfl); (simp only [Act.put, List.setIfInBounds_toArray, List.set_cons_succ, List.set_cons_zero])))); (with_reducible refine qs_nil ?_)
        (refine mix_one (i := 9) (by kernel_rfl) rfl (by kernel_rfl) rfl ?_)
        (refine step_zero _ rfl (zeroTab _ _ _ rfl) ?_; intro b11 hb11; (simp only [Act.put, List.setIfInBounds_toArray, List.set_cons_succ, List.set_cons_zero]))
        (refine mix_one (i := 10) (by kernel_rfl) rfl (by kernel_rfl) rfl ?_)
        (refine step_lay _ _ _ rfl _ _ rfl _ _ rfl 0 rfl (by assumption) (rowTab _ _ rfl) (by omega) ?_ ?_; (first | (intro _ _; rfl) | (intro k _; exact h1 _)); simp only [List.set]; (simp only [Act.put, List.setIfInBounds_toArray, List.set_cons_succ, List.set_cons_zero]))
        (refine mix_one (i := 11) (by kernel_rfl) rfl (by kernel_rfl) rfl ?_)
        (refine step_val ?_; apply Exists.intro; refine ⟨fun W => ?_, ?_⟩; (go_simp; rfl); (simp only [Act.put, List.setIfInBounds_toArray, List.set_cons_succ, List.set_cons_zero]))
        (refine mix_end (by kernel_rfl) ?_; intro W' hM; simp only [List.cons_append, List.nil_append] at hM)
        have hM2 := hM.three 0 5 1 rfl rfl rfl (by omega) (by omega) (by omega)
        have hM3 := hM2.re 0 rfl (pas D) (lay_pasy _ _)
        simp only [List.set_cons_zero] at hM3
        clear hM hM2
        have hM := hM3
        clear hM3
        go_wp2
        ((try simp only [Act.put, List.setIfInBounds_toArray, List.set_cons_succ, List.set_cons_zero]); refine region_head_mem (m := 3) (by kernel_rfl) (by kernel_rfl) hM ?_; clear hM; simp only [List.take_succ_cons, List.take_zero, List.drop_succ_cons, List.drop_zero]; (repeat (first | go_big_quiet_skip | (go_big_quiet_want; first | (refine quiet_get _ _ rfl _ _ rfl 0 rfl (rowTab _ _ rfl) (by omega) ?_; (simp only [Act.put, List.setIfInBounds_toArray, List.set_cons_succ, List.set_cons_zero]); go_big_quiet_on) | (refine quiet_call ?_; apply Exists.intro; apply Exists.intro; apply Exists.intro; refine ⟨fun W => ?_, fun W hM => ?_, ?_⟩; (go_simp; exact ⟨rfl, rfl⟩); (with_reducible exact HS.out bL cL FL W hcL hFL (hM.ats 2 _ _ _ rfl)); (simp only [Act.put, List.setIfInBounds_toArray, List.set_cons_succ, List.set_cons_zero]); go_big_quiet_on) | (refine quiet_val ?_; apply Exists.intro; refine ⟨fun W => ?_, ?_⟩; (go_simp; rfl); (simp only [Act.put, List.setIfInBounds_toArray, List.set_cons_succ, List.set_cons_zero]); go_big_quiet_on)))); (with_reducible refine wpQuiet_nil ?_); intro W' hM)
        go_wp2_with (first | (refine wpList_lay rfl _ _ _ rfl _ _ rfl _ _ rfl hM 1 rfl (by assumption) (rowTab _ _ rfl) (by omega) ?_ ?_; (first | (intro _ _; rfl) | (intro k _; exact h1 _) | (intro k _; simp only [lay, upd]; (repeat' split) <;> first | exact h1 _ | rfl)); intro W' hM'; clear hM; have hM := hM'; clear hM'; simp only [List.set] at hM))
        refine bodyPost_ret (results_at3 rfl _ rfl ((hM.ats 1 _ _ _ rfl).congr (by first | exact lay_pasz _ _ | exact lay_pasy _ _)) (rowTab _ _ rfl)) rfl ?_
        exact ⟨ret_pas3 Hr.out, hM.below⟩
    · (refine step_zero _ rfl (zeroTab _ _ _ rfl) ?_; intro b11 hb11; (simp only [Act.put, List.setIfInBounds_toArray, List.set_cons_succ, List.set_cons_zero]))
      (refine mix_one (i := 5) (by kernel_rfl) rfl (by kernel_rfl) rfl ?_)
      refine step_call_more (β := Value × Blocks) (fun z => .tuple #[.agg (arr 122 (pas D)), z.1]) (fun z => z.2) (GoodL n (yV h p W H)) ?_
      apply Exists.intro; apply Exists.intro; refine ⟨fun W => ?_, fun W hM => ?_, ?_⟩
      · go_simp; exact ⟨rfl, rfl⟩
      · exact HL.out y hy _ _ _ hM (hM.three 1 2 3 rfl rfl rfl (by omega) (by omega) (by omega))
      rintro ⟨v, Bs⟩ hz2
      rcases hz2 with ⟨hn0, hv, hB⟩ | ⟨bL, cL, FL, hcL, hFL, hv, hB⟩ <;> dsimp only at hv hB <;> subst hv hB <;> (try simp only [Act.put, List.setIfInBounds_toArray, List.set_cons_succ, List.set_cons_zero])
      · refine mixQ_reads (s1 := #[true, true, true, true, true, true, true, true, true, true, false, false]) (g := 2) (by kernel_rfl) [6, 7, 8] _ _ (by decide) (by kernel_rfl) ?_
        (repeat (refine qs_plain rfl rfl ?_; first | (refine b_val ?_; apply Exists.intro; refine ⟨fun W => ?_, ?_⟩; (go_simp; rfl); (simp only [Act.put, List.setIfInBounds_toArray, List.set_cons_succ, List.set_cons_zero])))); (with_reducible refine qs_nil ?_)
        (refine mix_one (i := 10) (by kernel_rfl) rfl (by kernel_rfl) rfl ?_)
        (refine step_lay _ _ _ rfl _ _ rfl _ _ rfl 0 rfl (by assumption) (rowTab _ _ rfl) (by omega) ?_ ?_; (first | (intro _ _; rfl) | (intro k _; exact h1 _)); simp only [List.set]; (simp only [Act.put, List.setIfInBounds_toArray, List.set_cons_succ, List.set_cons_zero]))
        (refine mix_one (i := 11) (by kernel_rfl) rfl (by kernel_rfl) rfl ?_)
        (refine step_val ?_; apply Exists.intro; refine ⟨fun W => ?_, ?_⟩; (go_simp; rfl); (simp only [Act.put, List.setIfInBounds_toArray, List.set_cons_succ, List.set_cons_zero]))
        (refine mix_end (by kernel_rfl) ?_; intro W' hM; simp only [List.cons_append, List.nil_append] at hM)
        have hM2 := hM.three 0 4 5 rfl rfl rfl (by omega) (by omega) (by omega)
        have hM3 := hM2.re 0 rfl (pas D) (lay_pasy _ _)
        simp only [List.set_cons_zero] at hM3
        clear hM hM2
        have hM := hM3
        clear hM3
        go_wp2
        ((try simp only [Act.put, List.setIfInBounds_toArray, List.set_cons_succ, List.set_cons_zero]); refine region_head_mem (m := 3) (by kernel_rfl) (by kernel_rfl) hM ?_; clear hM; simp only [List.take_succ_cons, List.take_zero, List.drop_succ_cons, List.drop_zero]; (repeat (first | go_big_quiet_skip | (go_big_quiet_want; first | (refine quiet_get _ _ rfl _ _ rfl 0 rfl (rowTab _ _ rfl) (by omega) ?_; (simp only [Act.put, List.setIfInBounds_toArray, List.set_cons_succ, List.set_cons_zero]); go_big_quiet_on) | (refine quiet_call ?_; apply Exists.intro; apply Exists.intro; apply Exists.intro; refine ⟨fun W => ?_, fun W hM => ?_, ?_⟩; (go_simp; exact ⟨rfl, rfl⟩); (with_reducible exact sumOf_nil W); (simp only [Act.put, List.setIfInBounds_toArray, List.set_cons_succ, List.set_cons_zero]); go_big_quiet_on) | (refine quiet_val ?_; apply Exists.intro; refine ⟨fun W => ?_, ?_⟩; (go_simp; rfl); (simp only [Act.put, List.setIfInBounds_toArray, List.set_cons_succ, List.set_cons_zero]); go_big_quiet_on)))); (with_reducible refine wpQuiet_nil ?_); intro W' hM)
        go_wp2_with (first | (refine wpList_lay rfl _ _ _ rfl _ _ rfl _ _ rfl hM 1 rfl (by assumption) (rowTab _ _ rfl) (by omega) ?_ ?_; (first | (intro _ _; rfl) | (intro k _; exact h1 _) | (intro k _; simp only [lay, upd]; (repeat' split) <;> first | exact h1 _ | rfl)); intro W' hM'; clear hM; have hM := hM'; clear hM'; simp only [List.set] at hM))
        refine bodyPost_ret (results_at3 rfl _ rfl ((hM.ats 1 _ _ _ rfl).congr (by first | exact lay_pasz _ _ | exact lay_pasy _ _)) (rowTab _ _ rfl)) rfl ?_
        exact ⟨ret_pas3 (Hr.out.trans (by rw [hz.out hn0])), hM.below⟩
      · refine mixQ_reads (s1 := #[true, true, true, true, true, true, true, true, true, true, false, false]) (g := 2) (by kernel_rfl) [6, 7, 8] _ _ (by decide) (by kernel_rfl) ?_
        (repeat (refine qs_plain rfl rfl ?_; first | (refine b_val ?_; apply Exists.intro; refine ⟨fun W => ?_, ?_⟩; (go_simp; rfl); (simp only [Act.put, List.setIfInBounds_toArray, List.set_cons_succ, List.set_cons_zero])))); (with_reducible refine qs_nil ?_)
        (refine mix_one (i := 10) (by kernel_rfl) rfl (by kernel_rfl) rfl ?_)
        (refine step_lay _ _ _ rfl _ _ rfl _ _ rfl 1 rfl (by assumption) (rowTab _ _ rfl) (by omega) ?_ ?_; (first | (intro _ _; rfl) | (intro k _; exact h1 _)); simp only [List.set]; (simp only [Act.put, List.setIfInBounds_toArray, List.set_cons_succ, List.set_cons_zero]))
        (refine mix_one (i := 11) (by kernel_rfl) rfl (by kernel_rfl) rfl ?_)
        (refine step_val ?_; apply Exists.intro; refine ⟨fun W => ?_, ?_⟩; (go_simp; rfl); (simp only [Act.put, List.setIfInBounds_toArray, List.set_cons_succ, List.set_cons_zero]))
        (refine mix_end (by kernel_rfl) ?_; intro W' hM; simp only [List.cons_append, List.nil_append] at hM)
        have hM2 := hM.three 1 5 0 rfl rfl rfl (by omega) (by omega) (by omega)
        have hM3 := hM2.re 0 rfl (pas D) (lay_pasy _ _)
        simp only [List.set_cons_zero] at hM3
        clear hM hM2
        have hM := hM3
        clear hM3
        go_wp2
        ((try simp only [Act.put, List.setIfInBounds_toArray, List.set_cons_succ, List.set_cons_zero]); refine region_head_mem (m := 3) (by kernel_rfl) (by kernel_rfl) hM ?_; clear hM; simp only [List.take_succ_cons, List.take_zero, List.drop_succ_cons, List.drop_zero]; (repeat (first | go_big_quiet_skip | (go_big_quiet_want; first | (refine quiet_get _ _ rfl _ _ rfl 0 rfl (rowTab _ _ rfl) (by omega) ?_; (simp only [Act.put, List.setIfInBounds_toArray, List.set_cons_succ, List.set_cons_zero]); go_big_quiet_on) | (refine quiet_call ?_; apply Exists.intro; apply Exists.intro; apply Exists.intro; refine ⟨fun W => ?_, fun W hM => ?_, ?_⟩; (go_simp; exact ⟨rfl, rfl⟩); (with_reducible exact HS.out bL cL FL W hcL hFL (hM.ats 2 _ _ _ rfl)); (simp only [Act.put, List.setIfInBounds_toArray, List.set_cons_succ, List.set_cons_zero]); go_big_quiet_on) | (refine quiet_val ?_; apply Exists.intro; refine ⟨fun W => ?_, ?_⟩; (go_simp; rfl); (simp only [Act.put, List.setIfInBounds_toArray, List.set_cons_succ, List.set_cons_zero]); go_big_quiet_on)))); (with_reducible refine wpQuiet_nil ?_); intro W' hM)
        go_wp2_with (first | (refine wpList_lay rfl _ _ _ rfl _ _ rfl _ _ rfl hM 1 rfl (by assumption) (rowTab _ _ rfl) (by omega) ?_ ?_; (first | (intro _ _; rfl) | (intro k _; exact h1 _) | (intro k _; simp only [lay, upd]; (repeat' split) <;> first | exact h1 _ | rfl)); intro W' hM'; clear hM; have hM := hM'; clear hM'; simp only [List.set] at hM))
        refine bodyPost_ret (results_at3 rfl _ rfl ((hM.ats 1 _ _ _ rfl).congr (by first | exact lay_pasz _ _ | exact lay_pasy _ _)) (rowTab _ _ rfl)) rfl ?_
        exact ⟨ret_pas3 Hr.out, hM.below⟩
  · (refine step_zero _ rfl (zeroTab _ _ _ rfl) ?_; intro b11 hb11; (simp only [Act.put, List.setIfInBounds_toArray, List.set_cons_succ, List.set_cons_zero]))
    (refine mix_one (i := 4) (by kernel_rfl) rfl (by kernel_rfl) rfl ?_)
    refine step_call_more (β := DayB) (fun y => dayV y.bv y.bg) (fun y => dayK h (W * H) y.bv y.bg y.bl y.cc y.F) (fun y => W * H ≤ y.cc ∧ ∀ j, j < W * H * 2 → y.F j = sps (sC W) j) ?_
    apply Exists.intro; apply Exists.intro; refine ⟨fun W => ?_, fun W hM => ?_, ?_⟩
    · go_simp; exact ⟨rfl, rfl⟩
    · exact HG.out _ _ _ hM
    intro y hy
    (try simp only [Act.put, List.setIfInBounds_toArray, List.set_cons_succ, List.set_cons_zero])
    (refine mix_one (i := 5) (by kernel_rfl) rfl (by kernel_rfl) rfl ?_)
    refine step_call_more (β := Value × Blocks) (fun z => .tuple #[.agg (arr 122 (pas D)), z.1]) (fun z => z.2) (GoodL n (yV h p W H)) ?_
    apply Exists.intro; apply Exists.intro; refine ⟨fun W => ?_, fun W hM => ?_, ?_⟩
    · go_simp; exact ⟨rfl, rfl⟩
    · exact HL.out y hy _ _ _ hM (hM.three 0 1 2 rfl rfl rfl (by omega) (by omega) (by omega))
    rintro ⟨v, Bs⟩ hz2
    rcases hz2 with ⟨hn0, hv, hB⟩ | ⟨bL, cL, FL, hcL, hFL, hv, hB⟩ <;> dsimp only at hv hB <;> subst hv hB <;> (try simp only [Act.put, List.setIfInBounds_toArray, List.set_cons_succ, List.set_cons_zero])
    · refine mixQ_reads (s1 := #[true, true, true, true, true, true, true, true, true, true, false, false]) (g := 2) (by kernel_rfl) [6, 7, 8] _ _ (by decide) (by kernel_rfl) ?_
      (repeat (refine qs_plain rfl rfl ?_; first | (refine b_val ?_; apply Exists.intro; refine ⟨fun W => ?_, ?_⟩; (go_simp; rfl); (simp only [Act.put, List.setIfInBounds_toArray, List.set_cons_succ, List.set_cons_zero])))); (with_reducible refine qs_nil ?_)
      (refine mix_one (i := 10) (by kernel_rfl) rfl (by kernel_rfl) rfl ?_)
      (refine step_lay _ _ _ rfl _ _ rfl _ _ rfl 3 rfl (by assumption) (rowTab _ _ rfl) (by omega) ?_ ?_; (first | (intro _ _; rfl) | (intro k _; exact h1 _)); simp only [List.set]; (simp only [Act.put, List.setIfInBounds_toArray, List.set_cons_succ, List.set_cons_zero]))
      (refine mix_one (i := 11) (by kernel_rfl) rfl (by kernel_rfl) rfl ?_)
      (refine step_val ?_; apply Exists.intro; refine ⟨fun W => ?_, ?_⟩; (go_simp; rfl); (simp only [Act.put, List.setIfInBounds_toArray, List.set_cons_succ, List.set_cons_zero]))
      (refine mix_end (by kernel_rfl) ?_; intro W' hM; simp only [List.cons_append, List.nil_append] at hM)
      have hM2 := hM.three 3 4 5 rfl rfl rfl (by omega) (by omega) (by omega)
      have hM3 := hM2.re 0 rfl (pas D) (lay_pasy _ _)
      simp only [List.set_cons_zero] at hM3
      clear hM hM2
      have hM := hM3
      clear hM3
      go_wp2
      ((try simp only [Act.put, List.setIfInBounds_toArray, List.set_cons_succ, List.set_cons_zero]); refine region_head_mem (m := 3) (by kernel_rfl) (by kernel_rfl) hM ?_; clear hM; simp only [List.take_succ_cons, List.take_zero, List.drop_succ_cons, List.drop_zero]; (repeat (first | go_big_quiet_skip | (go_big_quiet_want; first | (refine quiet_get _ _ rfl _ _ rfl 0 rfl (rowTab _ _ rfl) (by omega) ?_; (simp only [Act.put, List.setIfInBounds_toArray, List.set_cons_succ, List.set_cons_zero]); go_big_quiet_on) | (refine quiet_call ?_; apply Exists.intro; apply Exists.intro; apply Exists.intro; refine ⟨fun W => ?_, fun W hM => ?_, ?_⟩; (go_simp; exact ⟨rfl, rfl⟩); (with_reducible exact sumOf_nil W); (simp only [Act.put, List.setIfInBounds_toArray, List.set_cons_succ, List.set_cons_zero]); go_big_quiet_on) | (refine quiet_val ?_; apply Exists.intro; refine ⟨fun W => ?_, ?_⟩; (go_simp; rfl); (simp only [Act.put, List.setIfInBounds_toArray, List.set_cons_succ, List.set_cons_zero]); go_big_quiet_on)))); (with_reducible refine wpQuiet_nil ?_); intro W' hM)
      go_wp2_with (first | (refine wpList_lay rfl _ _ _ rfl _ _ rfl _ _ rfl hM 1 rfl (by assumption) (rowTab _ _ rfl) (by omega) ?_ ?_; (first | (intro _ _; rfl) | (intro k _; exact h1 _) | (intro k _; simp only [lay, upd]; (repeat' split) <;> first | exact h1 _ | rfl)); intro W' hM'; clear hM; have hM := hM'; clear hM'; simp only [List.set] at hM))
      refine bodyPost_ret (results_at3 rfl _ rfl ((hM.ats 1 _ _ _ rfl).congr (by first | exact lay_pasz _ _ | exact lay_pasy _ _)) (rowTab _ _ rfl)) rfl ?_
      exact ⟨ret_pas3 (Hr.out.trans (by rw [hz.out hn0])), hM.below⟩
    · refine mixQ_reads (s1 := #[true, true, true, true, true, true, true, true, true, true, false, false]) (g := 2) (by kernel_rfl) [6, 7, 8] _ _ (by decide) (by kernel_rfl) ?_
      (repeat (refine qs_plain rfl rfl ?_; first | (refine b_val ?_; apply Exists.intro; refine ⟨fun W => ?_, ?_⟩; (go_simp; rfl); (simp only [Act.put, List.setIfInBounds_toArray, List.set_cons_succ, List.set_cons_zero])))); (with_reducible refine qs_nil ?_)
      (refine mix_one (i := 10) (by kernel_rfl) rfl (by kernel_rfl) rfl ?_)
      (refine step_lay _ _ _ rfl _ _ rfl _ _ rfl 4 rfl (by assumption) (rowTab _ _ rfl) (by omega) ?_ ?_; (first | (intro _ _; rfl) | (intro k _; exact h1 _)); simp only [List.set]; (simp only [Act.put, List.setIfInBounds_toArray, List.set_cons_succ, List.set_cons_zero]))
      (refine mix_one (i := 11) (by kernel_rfl) rfl (by kernel_rfl) rfl ?_)
      (refine step_val ?_; apply Exists.intro; refine ⟨fun W => ?_, ?_⟩; (go_simp; rfl); (simp only [Act.put, List.setIfInBounds_toArray, List.set_cons_succ, List.set_cons_zero]))
      (refine mix_end (by kernel_rfl) ?_; intro W' hM; simp only [List.cons_append, List.nil_append] at hM)
      have hM2 := hM.three 4 5 0 rfl rfl rfl (by omega) (by omega) (by omega)
      have hM3 := hM2.re 0 rfl (pas D) (lay_pasy _ _)
      simp only [List.set_cons_zero] at hM3
      clear hM hM2
      have hM := hM3
      clear hM3
      go_wp2
      ((try simp only [Act.put, List.setIfInBounds_toArray, List.set_cons_succ, List.set_cons_zero]); refine region_head_mem (m := 3) (by kernel_rfl) (by kernel_rfl) hM ?_; clear hM; simp only [List.take_succ_cons, List.take_zero, List.drop_succ_cons, List.drop_zero]; (repeat (first | go_big_quiet_skip | (go_big_quiet_want; first | (refine quiet_get _ _ rfl _ _ rfl 0 rfl (rowTab _ _ rfl) (by omega) ?_; (simp only [Act.put, List.setIfInBounds_toArray, List.set_cons_succ, List.set_cons_zero]); go_big_quiet_on) | (refine quiet_call ?_; apply Exists.intro; apply Exists.intro; apply Exists.intro; refine ⟨fun W => ?_, fun W hM => ?_, ?_⟩; (go_simp; exact ⟨rfl, rfl⟩); (with_reducible exact HS.out bL cL FL W hcL hFL (hM.ats 2 _ _ _ rfl)); (simp only [Act.put, List.setIfInBounds_toArray, List.set_cons_succ, List.set_cons_zero]); go_big_quiet_on) | (refine quiet_val ?_; apply Exists.intro; refine ⟨fun W => ?_, ?_⟩; (go_simp; rfl); (simp only [Act.put, List.setIfInBounds_toArray, List.set_cons_succ, List.set_cons_zero]); go_big_quiet_on)))); (with_reducible refine wpQuiet_nil ?_); intro W' hM)
      go_wp2_with (first | (refine wpList_lay rfl _ _ _ rfl _ _ rfl _ _ rfl hM 1 rfl (by assumption) (rowTab _ _ rfl) (by omega) ?_ ?_; (first | (intro _ _; rfl) | (intro k _; exact h1 _) | (intro k _; simp only [lay, upd]; (repeat' split) <;> first | exact h1 _ | rfl)); intro W' hM'; clear hM; have hM := hM'; clear hM'; simp only [List.set] at hM))
      refine bodyPost_ret (results_at3 rfl _ rfl ((hM.ats 1 _ _ _ rfl).congr (by first | exact lay_pasz _ _ | exact lay_pasy _ _)) (rowTab _ _ rfl)) rfl ?_
      exact ⟨ret_pas3 Hr.out, hM.below⟩
end Go.Proofs.YtflobpbfpkoghaaDoor

/-
  laws.FnExactGrowDays returns true.
-/
namespace Go.Proofs.YtflobpbfpkoghaaDoor
open Go Go.RowKit Go.BigFrame

theorem growD_pas (p h : Nat → Int) (n : Int) : ∃ g r c, growD p h n = pasR3 g r c := by
  unfold growD; split
  · split <;> exact ⟨_, _, _, rfl⟩
  · exact ⟨_, _, _, rfl⟩
theorem eqP_lay2 (z z' : Nat → Value) (g : Nat → Int) (w : World) :
    Calls Tryd.prog 25 #[.agg (arr 122 (fun k => lay z 0 122 (pas g) k)), .agg (arr 122 (fun k => lay z' 0 122 (pas g) k))] w fun e w' => e = .returned (.bool true) ∧ Below w.heap.size w w' := by
  rw [arr_congr (f := fun k => lay z 0 122 (pas g) k) (g := pas g) (fun k hk => lay_pas _ _ k hk), arr_congr (f := fun k => lay z' 0 122 (pas g) k) (g := pas g) (fun k hk => lay_pas _ _ k hk)]
  exact eqPasture_same g w

set_option maxRecDepth 100000 in
set_option maxHeartbeats 2000000 in
theorem lawGrowDays_any {a : Nat → Addr} (p : Nat → Int) (hp : Fits p) (h : Nat → Int) (hF : FitsW h) (n : Int) (w : World) (hE : Errs a w) :
    Calls Tryd.prog 9 #[.agg (arr 122 (pas p)), .agg (arr 12 (gro h)), .int .i64 n] w fun e w' => e = .returned (.bool true) ∧ Below w.heap.size w w' := by
  have hM := Mem.nil w
  have HE := Lib.hid hE
  have hS := fun W => specGrowDays_any p hp h hF n W
  have hI := fun W hE => implGrowDays_any (a := a) p hp h hF n W hE
  obtain ⟨g, r, c, hq⟩ := growD_pas p h n
  rw [hq] at hS hI
  have HS := Lib.hid hS
  have HI := Lib.hid hI
  clear hE hS hI hq
  have tk_b1 : True := trivial; have tk_b2 : True := trivial
  go_enter Tryd.func9, Tryd.ntmps9
  go_wp2_with (first | (have _t := tk_b1; refine wpList_box rfl _ _ rfl _ _ rfl hM ?_; intro b1 W' hb1 hM'; clear hM tk_b1; have hM := hM'; clear hM') | (have _t := tk_b2; refine wpList_box rfl _ _ rfl _ _ rfl hM ?_; intro b2 W' hb2 hM'; clear hM tk_b2; have hM := hM'; clear hM'))
  ((try simp only [Act.put, List.setIfInBounds_toArray, List.set_cons_succ, List.set_cons_zero]); refine region_reads [0, 1, 2, 3, 4, 5, 6, 7, 8, 9] #[true, true, true, true, true, true, true, true, true, true, false, false, false, false] 4 (by kernel_rfl) (by kernel_rfl) (by kernel_rfl) hM ?_; clear hM; (repeat (refine qs_plain rfl rfl ?_; first | (refine b_get _ _ rfl _ _ rfl 1 rfl (rowTab _ _ rfl) (by omega) ?_; (simp only [Act.put, List.setIfInBounds_toArray, List.set_cons_succ, List.set_cons_zero])) | (refine b_get _ _ rfl _ _ rfl 0 rfl (rowTab _ _ rfl) (by omega) ?_; (simp only [Act.put, List.setIfInBounds_toArray, List.set_cons_succ, List.set_cons_zero])) | (refine b_call ?_; apply Exists.intro; apply Exists.intro; apply Exists.intro; refine ⟨fun W => ?_, fun W hM => ?_, ?_⟩; (go_simp; exact ⟨rfl, rfl⟩); (with_reducible exact toPasture_pas p W); (simp only [Act.put, List.setIfInBounds_toArray, List.set_cons_succ, List.set_cons_zero])) | (refine b_call ?_; apply Exists.intro; apply Exists.intro; apply Exists.intro; refine ⟨fun W => ?_, fun W hM => ?_, ?_⟩; (go_simp; exact ⟨rfl, rfl⟩); (with_reducible exact toGrowth_gro h W); (simp only [Act.put, List.setIfInBounds_toArray, List.set_cons_succ, List.set_cons_zero])) | (refine b_call ?_; apply Exists.intro; apply Exists.intro; apply Exists.intro; refine ⟨fun W => ?_, fun W hM => ?_, ?_⟩; (go_simp; exact ⟨rfl, rfl⟩); (with_reducible exact HS.out W); (simp only [pasR3_eq]); (simp only [Act.put, List.setIfInBounds_toArray, List.set_cons_succ, List.set_cons_zero])) | (refine b_val ?_; apply Exists.intro; refine ⟨fun W => ?_, ?_⟩; (go_simp; rfl); (simp only [Act.put, List.setIfInBounds_toArray, List.set_cons_succ, List.set_cons_zero])))); (with_reducible refine qs_nil ?_))
  (refine mix_one (i := 10) (by kernel_rfl) rfl (by kernel_rfl) rfl ?_)
  (refine step_zero _ rfl (zeroTab _ _ _ rfl) ?_; intro b3 hb3; (simp only [Act.put, List.setIfInBounds_toArray, List.set_cons_succ, List.set_cons_zero]))
  (refine mix_one (i := 11) (by kernel_rfl) rfl (by kernel_rfl) rfl ?_)
  (refine step_lay _ _ _ rfl _ _ rfl _ _ rfl 0 rfl (by assumption) (rowTab _ _ rfl) (by omega) ?_ ?_; (first | (intro _ _; rfl) | (intro k _; exact h1 _)); simp only [List.set]; (simp only [Act.put, List.setIfInBounds_toArray, List.set_cons_succ, List.set_cons_zero]))
  (refine mix_one (i := 12) (by kernel_rfl) rfl (by kernel_rfl) rfl ?_)
  (refine step_val ?_; apply Exists.intro; refine ⟨fun W => ?_, ?_⟩; (go_simp; rfl); (simp only [Act.put, List.setIfInBounds_toArray, List.set_cons_succ, List.set_cons_zero]))
  (refine mix_one (i := 13) (by kernel_rfl) rfl (by kernel_rfl) rfl ?_)
  (refine step_val ?_; apply Exists.intro; refine ⟨fun W => ?_, ?_⟩; (go_simp; rfl); (simp only [Act.put, List.setIfInBounds_toArray, List.set_cons_succ, List.set_cons_zero]))
  (refine mix_end (by kernel_rfl) ?_; intro W' hM; simp only [List.cons_append, List.nil_append] at hM)
  go_wp2
  ((try simp only [Act.put, List.setIfInBounds_toArray, List.set_cons_succ, List.set_cons_zero]); refine region_reads [0, 1, 2, 3, 4, 5, 6, 7, 8, 9] #[true, true, true, true, true, true, true, true, true, true, false, false, false, false] 4 (by kernel_rfl) (by kernel_rfl) (by kernel_rfl) hM ?_; clear hM; (repeat (refine qs_plain rfl rfl ?_; first | (refine b_get _ _ rfl _ _ rfl 2 rfl (rowTab _ _ rfl) (by omega) ?_; (simp only [Act.put, List.setIfInBounds_toArray, List.set_cons_succ, List.set_cons_zero])) | (refine b_get _ _ rfl _ _ rfl 1 rfl (rowTab _ _ rfl) (by omega) ?_; (simp only [Act.put, List.setIfInBounds_toArray, List.set_cons_succ, List.set_cons_zero])) | (refine b_call ?_; apply Exists.intro; apply Exists.intro; apply Exists.intro; refine ⟨fun W => ?_, fun W hM => ?_, ?_⟩; (go_simp; exact ⟨rfl, rfl⟩); (with_reducible exact toPasture_pas p W); (simp only [Act.put, List.setIfInBounds_toArray, List.set_cons_succ, List.set_cons_zero])) | (refine b_call ?_; apply Exists.intro; apply Exists.intro; apply Exists.intro; refine ⟨fun W => ?_, fun W hM => ?_, ?_⟩; (go_simp; exact ⟨rfl, rfl⟩); (with_reducible exact toGrowth_gro h W); (simp only [Act.put, List.setIfInBounds_toArray, List.set_cons_succ, List.set_cons_zero])) | (refine b_call ?_; apply Exists.intro; apply Exists.intro; apply Exists.intro; refine ⟨fun W => ?_, fun W hM => ?_, ?_⟩; (go_simp; exact ⟨rfl, rfl⟩); (with_reducible exact HI.out W (HE.out.below hM.below)); (simp only [pasR3_eq]); (simp only [Act.put, List.setIfInBounds_toArray, List.set_cons_succ, List.set_cons_zero])) | (refine b_val ?_; apply Exists.intro; refine ⟨fun W => ?_, ?_⟩; (go_simp; rfl); (simp only [Act.put, List.setIfInBounds_toArray, List.set_cons_succ, List.set_cons_zero])))); (with_reducible refine qs_nil ?_))
  (refine mix_one (i := 10) (by kernel_rfl) rfl (by kernel_rfl) rfl ?_)
  (refine step_zero _ rfl (zeroTab _ _ _ rfl) ?_; intro b4 hb4; (simp only [Act.put, List.setIfInBounds_toArray, List.set_cons_succ, List.set_cons_zero]))
  (refine mix_one (i := 11) (by kernel_rfl) rfl (by kernel_rfl) rfl ?_)
  (refine step_lay _ _ _ rfl _ _ rfl _ _ rfl 0 rfl (by assumption) (rowTab _ _ rfl) (by omega) ?_ ?_; (first | (intro _ _; rfl) | (intro k _; exact h1 _)); simp only [List.set]; (simp only [Act.put, List.setIfInBounds_toArray, List.set_cons_succ, List.set_cons_zero]))
  (refine mix_one (i := 12) (by kernel_rfl) rfl (by kernel_rfl) rfl ?_)
  (refine step_val ?_; apply Exists.intro; refine ⟨fun W => ?_, ?_⟩; (go_simp; rfl); (simp only [Act.put, List.setIfInBounds_toArray, List.set_cons_succ, List.set_cons_zero]))
  (refine mix_one (i := 13) (by kernel_rfl) rfl (by kernel_rfl) rfl ?_)
  (refine step_val ?_; apply Exists.intro; refine ⟨fun W => ?_, ?_⟩; (go_simp; rfl); (simp only [Act.put, List.setIfInBounds_toArray, List.set_cons_succ, List.set_cons_zero]))
  (refine mix_end (by kernel_rfl) ?_; intro W' hM; simp only [List.cons_append, List.nil_append] at hM)
  have tk_r1 : True := trivial; have tk_r2 : True := trivial
  go_wp2_with (first | (have _t := tk_r1; (refine wpList_get rfl _ _ rfl _ _ rfl hM 0 rfl (rowTab _ _ rfl) (by omega) ?_); clear tk_r1) | (have _t := tk_r2; (refine wpList_get rfl _ _ rfl _ _ rfl hM 1 rfl (rowTab _ _ rfl) (by omega) ?_); clear tk_r2) | (go_at_call 25; refine (eqP_lay2 _ _ g _).mono ?_; rintro e W' ⟨rfl, hb'⟩; have hM' := hM.call hb'; clear hM hb'; have hM := hM'; clear hM'))
  go_ret
  exact ⟨rfl, hM.below⟩
end Go.Proofs.YtflobpbfpkoghaaDoor

/-
  impl.GrowOnce by contract; laws.FnExactGrowOnce returns true.
-/
namespace Go.Proofs.YtflobpbfpkoghaaDoor
open Go Go.RowKit Go.BigFrame

set_option maxRecDepth 100000 in
set_option maxHeartbeats 2000000 in
theorem implGrowOnce_any {a : Nat → Addr} (p : Nat → Int) (hp : Fits p) (h : Nat → Int) (hF : FitsW h) (g : Nat → Int) (r c : Int) (hq : growD p h 1 = pasR3 g r c) (w : World) (hE : Errs a w) :
    Calls Tryd.prog 24 #[.agg (arr 122 (pas p)), .agg (arr 12 (gro h))] w fun e w' => e = .returned (pasR3 g r c) ∧ Below w.heap.size w w' := by
  have hM := Mem.nil w
  have hI := fun W hE => implGrowDays_any (a := a) p hp h hF 1 W hE
  rw [hq] at hI
  have HI := Lib.hid hI
  have HE := Lib.hid hE
  have Hz := Lib.hid (pasR3_eq g r c)
  clear hE hI hq
  have tk_b1 : True := trivial; have tk_b2 : True := trivial; have tk_b3 : True := trivial; have tk_g1 : True := trivial; have tk_g2 : True := trivial
  go_enter Tryd.func24, Tryd.ntmps24
  go_wp2_with (first | (have _t := tk_b1; refine wpList_box rfl _ _ rfl _ _ rfl hM ?_; intro b1 W' hb1 hM'; clear hM tk_b1; have hM := hM'; clear hM') | (have _t := tk_b2; refine wpList_box rfl _ _ rfl _ _ rfl hM ?_; intro b2 W' hb2 hM'; clear hM tk_b2; have hM := hM'; clear hM') | (have _t := tk_b3; refine wpList_zero rfl _ rfl (zeroTab _ _ _ rfl) hM ?_; intro b3 W' hb3 hM'; clear hM tk_b3; have hM := hM'; clear hM') | (have _t := tk_g1; (refine wpList_get rfl _ _ rfl _ _ rfl hM 2 rfl (rowTab _ _ rfl) (by omega) ?_); clear tk_g1) | (have _t := tk_g2; (refine wpList_get rfl _ _ rfl _ _ rfl hM 1 rfl (rowTab _ _ rfl) (by omega) ?_); clear tk_g2) | (go_at_call 27; (with_reducible refine (HI.out _ (HE.out.below hM.below)).mono ?_); rintro e W' ⟨rfl, hb'⟩; rw [Hz.out]; have hM' := hM.call hb'; clear hM hb'; have hM := hM'; clear hM') | (refine wpList_lay rfl _ _ _ rfl _ _ rfl _ _ rfl hM 0 rfl (by assumption) (rowTab _ _ rfl) (by omega) ?_ ?_; (first | (intro _ _; rfl) | (intro k _; exact h1 _) | (intro k _; simp only [lay, upd]; (repeat' split) <;> first | exact h1 _ | rfl)); intro W' hM'; clear hM; have hM := hM'; clear hM'; simp only [List.set] at hM))
  refine bodyPost_ret (results_at3 rfl _ rfl ((hM.ats 0 _ _ _ rfl).congr (by first | exact lay_pasy _ _ | exact lay_pasz _ _)) (rowTab _ _ rfl)) rfl ?_
  exact ⟨ret_pas3 rfl, hM.below⟩

set_option maxRecDepth 100000 in
set_option maxHeartbeats 2000000 in
theorem lawGrowOnce_any {a : Nat → Addr} (p : Nat → Int) (hp : Fits p) (h : Nat → Int) (hF : FitsW h) (w : World) (hE : Errs a w) :
    Calls Tryd.prog 8 #[.agg (arr 122 (pas p)), .agg (arr 12 (gro h))] w fun e w' => e = .returned (.bool true) ∧ Below w.heap.size w w' := by
  have hM := Mem.nil w
  have HE := Lib.hid hE
  obtain ⟨g, r, c, hq⟩ := growD_pas p h 1
  have hS := fun W => specGrowOnce_any p hp h hF W
  rw [hq] at hS
  have hI := fun W hE => implGrowOnce_any (a := a) p hp h hF g r c hq W hE
  have HS := Lib.hid hS
  have HI := Lib.hid hI
  clear hE hS hI hq
  have tk_b1 : True := trivial; have tk_b2 : True := trivial
  go_enter Tryd.func8, Tryd.ntmps8
  go_wp2_with (first | (have _t := tk_b1; refine wpList_box rfl _ _ rfl _ _ rfl hM ?_; intro b1 W' hb1 hM'; clear hM tk_b1; have hM := hM'; clear hM') | (have _t := tk_b2; refine wpList_box rfl _ _ rfl _ _ rfl hM ?_; intro b2 W' hb2 hM'; clear hM tk_b2; have hM := hM'; clear hM'))
  ((try simp only [Act.put, List.setIfInBounds_toArray, List.set_cons_succ, List.set_cons_zero]); refine region_reads [0, 1, 2, 3, 4, 5, 6, 7, 8] #[true, true, true, true, true, true, true, true, true, false, false, false, false] 4 (by kernel_rfl) (by kernel_rfl) (by kernel_rfl) hM ?_; clear hM; (repeat (refine qs_plain rfl rfl ?_; first | (refine b_get _ _ rfl _ _ rfl 1 rfl (rowTab _ _ rfl) (by omega) ?_; (simp only [Act.put, List.setIfInBounds_toArray, List.set_cons_succ, List.set_cons_zero])) | (refine b_get _ _ rfl _ _ rfl 0 rfl (rowTab _ _ rfl) (by omega) ?_; (simp only [Act.put, List.setIfInBounds_toArray, List.set_cons_succ, List.set_cons_zero])) | (refine b_call ?_; apply Exists.intro; apply Exists.intro; apply Exists.intro; refine ⟨fun W => ?_, fun W hM => ?_, ?_⟩; (go_simp; exact ⟨rfl, rfl⟩); (with_reducible exact toPasture_pas p W); (simp only [Act.put, List.setIfInBounds_toArray, List.set_cons_succ, List.set_cons_zero])) | (refine b_call ?_; apply Exists.intro; apply Exists.intro; apply Exists.intro; refine ⟨fun W => ?_, fun W hM => ?_, ?_⟩; (go_simp; exact ⟨rfl, rfl⟩); (with_reducible exact toGrowth_gro h W); (simp only [Act.put, List.setIfInBounds_toArray, List.set_cons_succ, List.set_cons_zero])) | (refine b_call ?_; apply Exists.intro; apply Exists.intro; apply Exists.intro; refine ⟨fun W => ?_, fun W hM => ?_, ?_⟩; (go_simp; exact ⟨rfl, rfl⟩); (with_reducible exact HS.out W); (simp only [pasR3_eq]); (simp only [Act.put, List.setIfInBounds_toArray, List.set_cons_succ, List.set_cons_zero])) | (refine b_val ?_; apply Exists.intro; refine ⟨fun W => ?_, ?_⟩; (go_simp; rfl); (simp only [Act.put, List.setIfInBounds_toArray, List.set_cons_succ, List.set_cons_zero])))); (with_reducible refine qs_nil ?_))
  (refine mix_one (i := 9) (by kernel_rfl) rfl (by kernel_rfl) rfl ?_)
  (refine step_zero _ rfl (zeroTab _ _ _ rfl) ?_; intro b3 hb3; (simp only [Act.put, List.setIfInBounds_toArray, List.set_cons_succ, List.set_cons_zero]))
  (refine mix_one (i := 10) (by kernel_rfl) rfl (by kernel_rfl) rfl ?_)
  (refine step_lay _ _ _ rfl _ _ rfl _ _ rfl 0 rfl (by assumption) (rowTab _ _ rfl) (by omega) ?_ ?_; (first | (intro _ _; rfl) | (intro k _; exact h1 _)); simp only [List.set]; (simp only [Act.put, List.setIfInBounds_toArray, List.set_cons_succ, List.set_cons_zero]))
  (refine mix_one (i := 11) (by kernel_rfl) rfl (by kernel_rfl) rfl ?_)
  (refine step_val ?_; apply Exists.intro; refine ⟨fun W => ?_, ?_⟩; (go_simp; rfl); (simp only [Act.put, List.setIfInBounds_toArray, List.set_cons_succ, List.set_cons_zero]))
  (refine mix_one (i := 12) (by kernel_rfl) rfl (by kernel_rfl) rfl ?_)
  (refine step_val ?_; apply Exists.intro; refine ⟨fun W => ?_, ?_⟩; (go_simp; rfl); (simp only [Act.put, List.setIfInBounds_toArray, List.set_cons_succ, List.set_cons_zero]))
  (refine mix_end (by kernel_rfl) ?_; intro W' hM; simp only [List.cons_append, List.nil_append] at hM)
  go_wp2
  ((try simp only [Act.put, List.setIfInBounds_toArray, List.set_cons_succ, List.set_cons_zero]); refine region_reads [0, 1, 2, 3, 4, 5, 6, 7, 8] #[true, true, true, true, true, true, true, true, true, false, false, false, false] 4 (by kernel_rfl) (by kernel_rfl) (by kernel_rfl) hM ?_; clear hM; (repeat (refine qs_plain rfl rfl ?_; first | (refine b_get _ _ rfl _ _ rfl 2 rfl (rowTab _ _ rfl) (by omega) ?_; (simp only [Act.put, List.setIfInBounds_toArray, List.set_cons_succ, List.set_cons_zero])) | (refine b_get _ _ rfl _ _ rfl 1 rfl (rowTab _ _ rfl) (by omega) ?_; (simp only [Act.put, List.setIfInBounds_toArray, List.set_cons_succ, List.set_cons_zero])) | (refine b_call ?_; apply Exists.intro; apply Exists.intro; apply Exists.intro; refine ⟨fun W => ?_, fun W hM => ?_, ?_⟩; (go_simp; exact ⟨rfl, rfl⟩); (with_reducible exact toPasture_pas p W); (simp only [Act.put, List.setIfInBounds_toArray, List.set_cons_succ, List.set_cons_zero])) | (refine b_call ?_; apply Exists.intro; apply Exists.intro; apply Exists.intro; refine ⟨fun W => ?_, fun W hM => ?_, ?_⟩; (go_simp; exact ⟨rfl, rfl⟩); (with_reducible exact toGrowth_gro h W); (simp only [Act.put, List.setIfInBounds_toArray, List.set_cons_succ, List.set_cons_zero])) | (refine b_call ?_; apply Exists.intro; apply Exists.intro; apply Exists.intro; refine ⟨fun W => ?_, fun W hM => ?_, ?_⟩; (go_simp; exact ⟨rfl, rfl⟩); (with_reducible exact HI.out W (HE.out.below hM.below)); (simp only [pasR3_eq]); (simp only [Act.put, List.setIfInBounds_toArray, List.set_cons_succ, List.set_cons_zero])) | (refine b_val ?_; apply Exists.intro; refine ⟨fun W => ?_, ?_⟩; (go_simp; rfl); (simp only [Act.put, List.setIfInBounds_toArray, List.set_cons_succ, List.set_cons_zero])))); (with_reducible refine qs_nil ?_))
  (refine mix_one (i := 9) (by kernel_rfl) rfl (by kernel_rfl) rfl ?_)
  (refine step_zero _ rfl (zeroTab _ _ _ rfl) ?_; intro b4 hb4; (simp only [Act.put, List.setIfInBounds_toArray, List.set_cons_succ, List.set_cons_zero]))
  (refine mix_one (i := 10) (by kernel_rfl) rfl (by kernel_rfl) rfl ?_)
  (refine step_lay _ _ _ rfl _ _ rfl _ _ rfl 0 rfl (by assumption) (rowTab _ _ rfl) (by omega) ?_ ?_; (first | (intro _ _; rfl) | (intro k _; exact h1 _)); simp only [List.set]; (simp only [Act.put, List.setIfInBounds_toArray, List.set_cons_succ, List.set_cons_zero]))
  (refine mix_one (i := 11) (by kernel_rfl) rfl (by kernel_rfl) rfl ?_)
  (refine step_val ?_; apply Exists.intro; refine ⟨fun W => ?_, ?_⟩; (go_simp; rfl); (simp only [Act.put, List.setIfInBounds_toArray, List.set_cons_succ, List.set_cons_zero]))
  (refine mix_one (i := 12) (by kernel_rfl) rfl (by kernel_rfl) rfl ?_)
  (refine step_val ?_; apply Exists.intro; refine ⟨fun W => ?_, ?_⟩; (go_simp; rfl); (simp only [Act.put, List.setIfInBounds_toArray, List.set_cons_succ, List.set_cons_zero]))
  (refine mix_end (by kernel_rfl) ?_; intro W' hM; simp only [List.cons_append, List.nil_append] at hM)
  have tk_r1 : True := trivial; have tk_r2 : True := trivial
  go_wp2_with (first | (have _t := tk_r1; (refine wpList_get rfl _ _ rfl _ _ rfl hM 0 rfl (rowTab _ _ rfl) (by omega) ?_); clear tk_r1) | (have _t := tk_r2; (refine wpList_get rfl _ _ rfl _ _ rfl hM 1 rfl (rowTab _ _ rfl) (by omega) ?_); clear tk_r2) | (go_at_call 25; refine (eqP_lay2 _ _ g _).mono ?_; rintro e W' ⟨rfl, hb'⟩; have hM' := hM.call hb'; clear hM hb'; have hM := hM'; clear hM'))
  go_ret
  exact ⟨rfl, hM.below⟩
end Go.Proofs.YtflobpbfpkoghaaDoor

