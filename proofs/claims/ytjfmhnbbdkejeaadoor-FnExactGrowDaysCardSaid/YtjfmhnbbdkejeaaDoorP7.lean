/-
  Several texts in one: Sum, GrowT, FeedHay, GrowSpec, Neq, EqP.
-/
import Derived.Test.YtjfmhnbbdkejeaaDoorP6
import Derived.Test.YtjfmhnbbdkejeaaDoorP4
import Derived.Test.YtjfmhnbbdkejeaaDoorP3
import Derived.Test.YtjfmhnbbdkejeaaDoorP2
import Derived.Test.YtjfmhnbbdkejeaaDoorP5
import Derived.Lib.Hide
/-
  Sums of grass: spec.l01Sum and (impl.Pasture).sumGrass by contracts.
-/
namespace Go.Proofs.YtjfmhnbbdkejeaaDoor
open Go Go.RowKit Go.Shelf Go.BigFrame

set_option maxRecDepth 100000 in
set_option maxHeartbeats 1000000 in
theorem l01Sum_any (g : Nat → Int) (hg : Fits g) (hb : ∀ k, k < 100 → 0 ≤ g (2 + k) ∧ g (2 + k) ≤ 1000) (bp : Nat) (w : World) (hA : At w bp 122 (pas g)) :
    Calls Tryd.prog 71 #[.pointer (some ⟨bp, 0, none⟩)] w fun e w' => e = .returned (.int .i64 (sumN 100 (fun k => g (2 + k)))) ∧ Below w.heap.size w w' := by
  have hM : Mem w [(bp, 122, pas g)] w := (Mem.nil w).old hA (fun i p h => by simp at h)
  have Hb := Lib.hid hb
  clear hA hb
  go_enter Tryd.func71, Tryd.ntmps71
  go_wp2
  go_loopw [3, 4] (fun s y wr => ∃ k : Nat, k ≤ 10 ∧ y = .int .i64 k ∧ s = .int .i64 (sumN (k * 10) (fun k => g (2 + k))) ∧ Mem w [(bp, 122, pas g)] wr) (fun _ y _ => 10 - (intOf y).toNat)
  case atStart => exact ⟨0, by omega, rfl, rfl, hM⟩
  case round =>
    clear hM
    obtain ⟨k, hk, rfl, rfl, hM⟩ := hrel
    by_cases hlt : k < 10
    · have hkd : decide ((k : Int) < 10) = true := decide_eq_true (by omega)
      go_wp2
      go_loopw [3, 5] (fun s x wr => ∃ j : Nat, j ≤ 10 ∧ x = .int .i64 j ∧ s = .int .i64 (sumN (k * 10 + j) (fun k => g (2 + k))) ∧ Mem w [(bp, 122, pas g)] wr) (fun _ x _ => 10 - (intOf x).toNat)
      case atStart => exact ⟨0, by omega, rfl, rfl, hM⟩
      case round =>
        clear hM
        obtain ⟨j, hj, rfl, rfl, hM⟩ := hrel
        by_cases hjl : j < 10
        · have lj : (j : Int) < 10 := by omega
          have lk : (k : Int) < 10 := by omega
          have hs := sumN_bounds (n := k * 10 + j) (f := fun k => g (2 + k)) (m := 1000) (by omega) (fun i hi => Hb.out i (by omega))
          have hr := Hb.out (k * 10 + j) (by omega)
          have e0 : pas g (2 + k * 10 + j) = .int .i16 (g (2 + (k * 10 + j))) := by rw [pas_i16 g (by omega) (by omega), Nat.add_assoc]
          have c0 : IntKind.i64.wrap (g (2 + (k * 10 + j))) = g (2 + (k * 10 + j)) := IntWalk.i64_in _ (by omega)
          have c1 : IntKind.i64.wrap (sumN (k * 10 + j) (fun k => g (2 + k)) + g (2 + (k * 10 + j))) = sumN (k * 10 + j) (fun k => g (2 + k)) + g (2 + (k * 10 + j)) := IntWalk.i64_in _ (by omega)
          clear hs hr
          go_wp2_with (refine wpList_get1 rfl _ _ rfl _ _ rfl hM 0 rfl (cellTab _ rfl) (by omega) _ e0 ?_)
          go_roundw
          case rel => exact ⟨j + 1, by omega, by go_num, rfl, hM⟩
          case measure => simp [intOf]; omega
        · obtain rfl : j = 10 := by omega
          go_wp2
          go_roundw
          case rel => exact ⟨k + 1, by omega, by go_num, by rw [Nat.add_mul, Nat.one_mul], hM⟩
          case measure => simp [intOf]; omega
    · obtain rfl : k = 10 := by omega
      go_wp2
      go_ret
      exact ⟨rfl, hM.below⟩

set_option maxRecDepth 100000 in
set_option maxHeartbeats 2000000 in
/-- sumGrass over an iterator of cells, told by its contract; what it holds lies in one block. -/
theorem sumGrass_seq {α : Type} (g : Nat → Int) (hg : Fits g) (hb : ∀ k, k < 100 → 0 ≤ g (2 + k) ∧ g (2 + k) ≤ 1000) (cell : α → Nat × Nat) (hc : ∀ x, (cell x).1 < 10 ∧ (cell x).2 < 10)
    {gf : Nat} {lb : Array Value} {S Sp : List α → Prop} {N : Nat} (bi ni : Nat) (fi : Nat → Value) (eg : ∀ args w, (callFunc gf args).run Tryd.prog w = .ok (.enter gf args) w) (hN : N ≤ 2 ^ 40) (T : Int) (hS : ∀ xs, S xs → sumL g (xs.map cell) = T)
    (w : World) (hA : At w bi ni fi)
    (hseq : ∀ W1, At W1 bi ni fi → SeqStopsK Fence.wide 2 Tryd.prog gf lb (fun x => #[.agg (arr 2 (sp ((cell x).1 : Int) ((cell x).2 : Int)))]) (fun A B => At A bi ni fi → At B bi ni fi) S Sp N W1) :
    Calls Tryd.prog 72 #[.agg (arr 122 (pas g)), .func (.func gf) #[] lb] w fun e w' => e = .returned (.int .i64 T) ∧ Below w.heap.size w w' := by
  have hM : Mem w [(bi, ni, fi)] w := (Mem.nil w).old hA (fun i p h => by simp at h)
  have Hb := Lib.hid hb
  have Hc := Lib.hid hc
  have HS := Lib.hid hS
  have Hq := Lib.hid hseq
  have HN := Lib.hid hN
  clear hA hb hc hS hseq hN
  refine (callsIn_wide (n := 3)).1 ?_
  refine callsIn_of_wp_marks Tryd.func72 rfl trivial ?_ rfl
  simp only [Tryd.ntmps72, List.size_toArray, List.length_cons, List.length_nil, Nat.reduceAdd, Nat.reduceSub, Array.replicate_succ, Array.replicate_zero, List.push_toArray, List.append_toArray, List.nil_append, List.cons_append]
  refine wpIn_wide.2 ?_
  have tk_b1 : True := trivial; have tk_b2 : True := trivial
  go_wp2_with (first | (have _t := tk_b1; refine wpList_box rfl _ _ rfl _ _ rfl hM ?_; intro b1 W' hb1 hM'; clear hM tk_b1; have hM := hM'; clear hM') | (have _t := tk_b2; refine wpList_zero1 rfl _ rfl (zero1Tab _ _ rfl) rfl hM ?_; intro b2 W' hb2 hM'; clear hM tk_b2; have hM := hM'; clear hM') | (refine wpList_set1 rfl _ _ _ rfl _ _ rfl _ rfl ?_ hM 0 rfl (by assumption) (cellTab _ rfl) (by omega) ?_; (first | rfl | exact h1 _); intro W' hM'; clear hM; have hM := hM'; clear hM'; simp [List.set, Act.eval] at hM))
  have hM1 := hM.re 0 rfl (fun _ => .int .i64 (sumL g [])) (fun k hk => sum_start g k hk)
  simp only [List.set_cons_zero] at hM1
  clear hM
  refine (wpIn_wide (n := 3)).1 ?_
  refine range_spots (α := α) (px := fun c => ((cell c).1 : Int)) (py := fun c => ((cell c).2 : Int)) (ks := [b2, b1, bi]) (gf := gf) (lb := lb)
    (fun pre => [(b2, 1, fun _ => .int .i64 (sumL g (pre.map cell))), (b1, 122, pas g), (bi, ni, fi)])
    rfl eg (Hq.out _ (hM1.ats 2 _ _ _ rfl)) (fun {A B C} h k x => k (h x)) (fun X l o o' h ho hA => hA.grown (grownBy_putObj' X l o') (fun r e => by cases e; exact ⟨o, h, ho⟩))
    (fun _ => rfl) (fun _ _ _ _ _ _ _ h2 _ => h2.ats 3 _ _ _ rfl) rfl rfl rfl rfl rfl rfl (by decide) (by simp) (by simp) hM1 ?body ?done
  case body =>
    intro l pre x bx X hbx hM hlen
    clear hM1
    dsimp only at hM ⊢
    generalize hxu : cell x = s at *
    obtain ⟨u, v⟩ := s
    have hcx := Hc.out x
    rw [hxu] at hcx
    dsimp only at hcx hM ⊢
    have hr := Hb.out (v * 10 + u) (by omega)
    have hs := sumL_bounds Hb.out (pre.map cell) (fun s hs => by obtain ⟨c, _, rfl⟩ := List.mem_map.1 hs; exact Hc.out c)
    have hl : (pre.map cell).length ≤ 2 ^ 40 := by have := HN.out; simp only [List.length_map]; omega
    rw [← Nat.add_assoc] at hr
    have c1 : IntKind.i64.wrap (sumL g (pre.map cell) + g (2 + v * 10 + u)) = sumL g (pre.map cell) + g (2 + v * 10 + u) := IntWalk.i64_in _ (by omega)
    have Hx := Lib.hid hxu
    clear hr hs hl hlen hxu
    refine wpIn_block ?_
    ((try simp only [Act.put, List.setIfInBounds_toArray, List.set_cons_succ, List.set_cons_zero]); refine region_round_head (m := 5) (fun ⟨_, _, h⟩ => h) rfl (by kernel_rfl) (by kernel_rfl) hM ?_; clear hM; simp only [List.take_succ_cons, List.take_zero, List.drop_succ_cons, List.drop_zero]; (repeat (first | go_big_quiet_skip | (go_big_quiet_want; first | (refine quiet_get _ _ rfl _ _ rfl 2 rfl (rowTab _ _ rfl) (by omega) ?_; (simp only [Act.put, List.setIfInBounds_toArray, List.set_cons_succ, List.set_cons_zero]); go_big_quiet_on) | (refine quiet_get _ _ rfl _ _ rfl 0 rfl (rowTab _ _ rfl) (by omega) ?_; (simp only [Act.put, List.setIfInBounds_toArray, List.set_cons_succ, List.set_cons_zero]); go_big_quiet_on) | (refine quiet_get1 _ _ rfl _ _ rfl 1 rfl (cellTab _ rfl) (by omega) (.int .i64 (sumL g (pre.map cell))) rfl ?_; (simp only [Act.put, List.setIfInBounds_toArray, List.set_cons_succ, List.set_cons_zero]); go_big_quiet_on) | (refine quiet_call ?_; apply Exists.intro; apply Exists.intro; apply Exists.intro; refine ⟨fun W => ?_, fun W hM => ?_, ?_⟩; (go_simp; exact ⟨rfl, rfl⟩); (exact grassAt_any g hg u v hcx.1 hcx.2 W); (simp only [Act.put, List.setIfInBounds_toArray, List.set_cons_succ, List.set_cons_zero]); go_big_quiet_on) | (refine quiet_val ?_; apply Exists.intro; refine ⟨fun W => ?_, ?_⟩; (go_simp; (try simp only [c1, if_true, Bool.false_eq_true, if_false]); rfl); (simp only [Act.put, List.setIfInBounds_toArray, List.set_cons_succ, List.set_cons_zero]); go_big_quiet_on)))); (with_reducible refine wpQuiet_nil ?_); intro W' hM)
    go_wp2_with (first | (refine wpList_set1 rfl _ _ _ rfl _ _ rfl _ rfl ?_ hM 1 rfl (by assumption) (cellTab _ rfl) (by omega) ?_; (first | rfl | exact h1 _); intro W' hM'; clear hM; have hM := hM'; clear hM'; simp [List.set, Act.eval] at hM))
    show Mem _ _ _
    have hM2 := hM.re 1 rfl (fun _ => .int .i64 (sumL g ((pre ++ [x]).map cell))) (fun k hk => by
      obtain rfl : k = 0 := by omega
      rw [List.map_append, List.map_singleton, Hx.out, sumL_snoc]; rfl)
    exact hM2
  case done =>
    rename_i K7 hK7
    intro D xs X hD hS hM hK
    have hsz : w.heap.size ≤ W'.heap.size := hM1.size
    rw [HS.out xs hS] at hM
    have hM' : Mem (Base.round w W'.heap.size X) _ X := hM.base ⟨hM.below, KeepsFrom.refl _ _⟩
    clear hM hM1
    have hM := hM'
    clear hM'
    show K7 _ _
    refine hK7 _ _ ?_
    dsimp only
    go_wp2_with (first | (refine wpList_get1 rfl _ _ rfl _ _ rfl hM 0 rfl (cellTab _ rfl) (by omega) _ rfl ?_))
    have hK' := hM.good.2.same D _ hD hK rfl
    exact leave_marks hK' (.int .i64 T) (by rw [results_tmp rfl]; rfl) ⟨rfl, below_mark hM.good.1 (Nat.le_trans hsz hD)⟩
end Go.Proofs.YtjfmhnbbdkejeaaDoor

/-
  A pasture whose cells grow, one after the other and day by day.
-/
namespace Go.Proofs.YtjfmhnbbdkejeaaDoor
open Go Go.RowKit

/-- p when its first i cells have grown by a day; W: how wide it is. -/
def growT (h p : Nat → Int) (W i : Nat) : Nat → Int := fun q => if (2 ≤ q ∧ q < 102 ∧ (q - 2) % 10 < W) ∧ (q - 2) / 10 * W + (q - 2) % 10 < i then laterN h (p q).toNat else p q
theorem growT_zero (h p : Nat → Int) (W : Nat) : growT h p W 0 = p := by
  funext q; unfold growT; rw [if_neg (fun h => by omega)]
theorem growT_at (h p : Nat → Int) (W k j : Nat) (hj : j < W) (hW : W ≤ 10) (hk : k < 10) : growT h p W (k * W + j) (2 + k * 10 + j) = p (2 + k * 10 + j) := by
  unfold growT
  have e1 : (2 + k * 10 + j - 2) % 10 = j := by omega
  have e2 : (2 + k * 10 + j - 2) / 10 = k := by omega
  rw [if_neg (fun h => by rw [e1, e2] at h; omega)]
def setP (g : Nat → Int) (k : Nat) (n : Int) : Nat → Int := fun j => if j = k then n else g j
theorem growT_succ (h p : Nat → Int) (W k j : Nat) (hj : j < W) (hW : W ≤ 10) (hk : k < 10) : setP (growT h p W (k * W + j)) (2 + k * 10 + j) (laterN h (p (2 + k * 10 + j)).toNat) = growT h p W (k * W + j + 1) := by
  funext q
  unfold setP growT
  by_cases e : q = 2 + k * 10 + j
  · subst e
    have e1 : (2 + k * 10 + j - 2) % 10 = j := by omega
    have e2 : (2 + k * 10 + j - 2) / 10 = k := by omega
    rw [if_pos rfl, if_pos ⟨⟨by omega, by omega, by omega⟩, by rw [e1, e2]; omega⟩]
  · rw [if_neg e]
    by_cases h2 : 2 ≤ q ∧ q < 102 ∧ (q - 2) % 10 < W
    · have hne : (q - 2) / 10 * W + (q - 2) % 10 ≠ k * W + j := fun h => by
        have a1 : ((q - 2) / 10 * W + (q - 2) % 10) / W = (q - 2) / 10 := by
          rw [Nat.mul_comm, Nat.mul_add_div (by omega), Nat.div_eq_of_lt h2.2.2]; omega
        have a2 : (k * W + j) / W = k := by
          rw [Nat.mul_comm, Nat.mul_add_div (by omega), Nat.div_eq_of_lt hj]; omega
        rw [h, a2] at a1
        rw [← a1] at h
        omega
      by_cases h3 : (q - 2) / 10 * W + (q - 2) % 10 < k * W + j
      · rw [if_pos ⟨h2, h3⟩, if_pos ⟨h2, by omega⟩]
      · rw [if_neg (fun x => h3 x.2), if_neg (fun x => by have := x.2; omega)]
    · rw [if_neg (fun x => h2 x.1), if_neg (fun x => h2 x.1)]
theorem growT_head (h p : Nat → Int) (W i q : Nat) (hq : q < 2) : growT h p W i q = p q := by
  unfold growT; rw [if_neg (fun h => by omega)]

/-- All grass is as it may be. -/
def GrassOk (p : Nat → Int) : Prop := ∀ k, k < 100 → 0 ≤ p (2 + k) ∧ p (2 + k) ≤ 1000
theorem GrassOk.at {p : Nat → Int} (h : GrassOk p) {k j : Nat} (hk : k < 10) (hj : j < 10) : 0 ≤ p (2 + k * 10 + j) ∧ p (2 + k * 10 + j) ≤ 1000 := by
  have := h (k * 10 + j) (by omega)
  rwa [← Nat.add_assoc] at this
theorem growT_in {h p : Nat → Int} (e : growB h = true) (hp : GrassOk p) (W i : Nat) : GrassOk (growT h p W i) := fun k hk => by
  have h1 := hp k hk
  unfold growT
  split
  · have := later_in e (n := (p (2 + k)).toNat) (by omega)
    omega
  · exact h1
theorem growT_fits {h p : Nat → Int} (e : growB h = true) (hp : GrassOk p) (hf : Fits p) (W i : Nat) : Fits (growT h p W i) := by
  obtain ⟨f1, f2, f3, f4⟩ := hf
  refine ⟨by rw [growT_head _ _ _ _ _ (by omega)]; exact f1, by rw [growT_head _ _ _ _ _ (by omega)]; exact f2, fun k hk hk' => ?_, fun k hk hk' => ?_⟩
  · have := growT_in e hp W i (k - 2) (by omega)
    rw [show 2 + (k - 2) = k by omega] at this
    omega
  · unfold growT
    rw [if_neg (fun x => by omega)]
    exact f4 k hk hk'

/-! ### Sums -/
def gsum (g : Nat → Int) : Int := sumN 100 (fun k => g (2 + k))
theorem gsum_in {p : Nat → Int} (hp : GrassOk p) : 0 ≤ gsum p ∧ gsum p ≤ 100000 := by
  have := sumN_bounds (n := 100) (f := fun k => p (2 + k)) (m := 1000) (by omega) hp
  unfold gsum; omega
theorem sumN_set (f : Nat → Int) (n : Int) (c : Nat) : ∀ m, sumN m (fun k => if k = c then n else f k) = sumN m f + (if c < m then n - f c else 0)
  | 0 => by simp [sumN]
  | m + 1 => by
    rw [sumN, sumN, sumN_set f n c m]
    by_cases e : m = c
    · subst e; simp; omega
    · rw [if_neg e]
      by_cases h : c < m
      · rw [if_pos h, if_pos (by omega)]; omega
      · rw [if_neg h, if_neg (by omega)]; omega
theorem gsum_set (g : Nat → Int) (c : Nat) (hc : c < 100) (n : Int) : gsum (setP g (2 + c) n) = gsum g + (n - g (2 + c)) := by
  unfold gsum
  have : (fun k => setP g (2 + c) n (2 + k)) = fun k => if k = c then n else (fun k => g (2 + k)) k := by
    funext k
    unfold setP
    by_cases e : k = c
    · simp [e]
    · rw [if_neg (by omega), if_neg e]
  rw [this, sumN_set, if_pos hc]
theorem gsum_succ (h p : Nat → Int) (W k j : Nat) (hj : j < W) (hW : W ≤ 10) (hk : k < 10) : gsum (growT h p W (k * W + j + 1)) = gsum (growT h p W (k * W + j)) + (laterN h (p (2 + k * 10 + j)).toNat - p (2 + k * 10 + j)) := by
  rw [← growT_succ h p W k j hj hW hk]
  have e : 2 + k * 10 + j = 2 + (k * 10 + j) := by omega
  rw [e, gsum_set _ _ (by omega), ← e, growT_at h p W k j hj hW hk]

/-- The pasture behind d days. -/
def dayG (h p : Nat → Int) (W H : Nat) : Nat → Nat → Int
  | 0 => p
  | d + 1 => growT h (dayG h p W H d) W (W * H)
theorem dayG_in {h p : Nat → Int} (e : growB h = true) (hp : GrassOk p) (W H : Nat) : ∀ d, GrassOk (dayG h p W H d)
  | 0 => hp
  | d + 1 => growT_in e (dayG_in e hp W H d) W _
theorem dayG_fits {h p : Nat → Int} (e : growB h = true) (hp : GrassOk p) (hf : Fits p) (W H : Nat) : ∀ d, Fits (dayG h p W H d)
  | 0 => hf
  | d + 1 => growT_fits e (dayG_in e hp W H d) (dayG_fits e hp hf W H d) W _
theorem dayG_head (h p : Nat → Int) (W H q : Nat) (hq : q < 2) : ∀ d, dayG h p W H d q = p q
  | 0 => rfl
  | d + 1 => by rw [dayG, growT_head _ _ _ _ _ hq, dayG_head h p W H q hq d]
/-- How much grows on day d. -/
def yieldD (h p : Nat → Int) (W H d : Nat) : Int := gsum (dayG h p W H (d + 1)) - gsum (dayG h p W H d)
theorem yield_sum (h p : Nat → Int) (W H : Nat) : ∀ n, sumN n (yieldD h p W H) = gsum (dayG h p W H n) - gsum p
  | 0 => by simp [sumN, dayG]
  | n + 1 => by rw [sumN, yield_sum h p W H n, yieldD]; omega

theorem upd_pas (g : Nat → Int) (k : Nat) (n : Int) (h : 2 ≤ k) (h' : k < 102) : upd (pas g) k (.int .i16 n) = pas (setP g k n) := by
  funext j
  unfold upd pas setP
  by_cases e : j = k
  · subst e; simp [kd_i16 h h']
  · simp [e]
theorem ok_sizes2 {g : Nat → Int} (ho : okB g = true) : ∃ W H : Nat, g 0 = W ∧ g 1 = H ∧ (1 ≤ W ∧ W ≤ 10) ∧ (1 ≤ H ∧ H ≤ 10) := by
  unfold okB at ho
  rw [Bool.and_eq_true, Bool.and_eq_true] at ho
  have b0 := inB_true ho.1.1
  have b1 := inB_true ho.1.2
  exact ⟨(g 0).toNat, (g 1).toNat, by omega, by omega, by omega, by omega⟩
theorem ok_in {g : Nat → Int} (ho : okB g = true) : GrassOk g := fun k hk => (ok_grass ho k hk).1
end Go.Proofs.YtjfmhnbbdkejeaaDoor

/-
  spec.FeedHay and impl.FeedHay by contracts; laws.FnExactFeedHay returns true.
-/
namespace Go.Proofs.YtjfmhnbbdkejeaaDoor
open Go Go.RowKit Go.BigFrame

/-- Three numbers as results. -/
def num3 (n m c : Int) : Value := .tuple #[.int .i64 n, .int .i64 m, .int .i64 c]
theorem num3_eq (n m c : Int) : num3 n m c = .tuple #[.int .i64 n, .int .i64 m, .int .i64 c] := rfl
theorem ret_num3 {n n' m m' c c' : Int} (h : n = n') (h1 : m = m') (h' : c = c') : Ending.returned (.tuple #[.int .i64 n, .int .i64 m, .int .i64 c]) = .returned (num3 n' m' c') := by rw [h, h1, h', num3_eq]

theorem l04Eats_any (n : Int) (w : World) :
    Calls Tryd.prog 67 #[.int .i64 n] w fun e w' => e = .returned (.bool (inB 0 100000 n)) ∧ Below w.heap.size w w' := by
  have hM := Mem.nil w
  go_enter Tryd.func67, Tryd.ntmps67
  go_wp2_with (go_at_call 46; refine (l00In_any _ _ _ _).mono ?_; rintro e W' ⟨rfl, hb'⟩; have hM' := hM.call hb'; clear hM hb'; have hM := hM'; clear hM')
  go_ret
  exact ⟨rfl, hM.below⟩
theorem l04Day_any (n : Int) (w : World) :
    Calls Tryd.prog 68 #[.int .i64 n] w fun e w' => e = .returned (.bool (inB 0 365 n)) ∧ Below w.heap.size w w' := by
  have hM := Mem.nil w
  go_enter Tryd.func68, Tryd.ntmps68
  go_wp2_with (go_at_call 46; refine (l00In_any _ _ _ _).mono ?_; rintro e W' ⟨rfl, hb'⟩; have hM' := hM.call hb'; clear hM hb'; have hM := hM'; clear hM')
  go_ret
  exact ⟨rfl, hM.below⟩

/-- The hay behind k days; on how many of them there was enough. -/
def hayK (y e : Int) : Nat → Int
  | 0 => y
  | k + 1 => if e ≤ hayK y e k then hayK y e k - e else 0
def enK (y e : Int) : Nat → Nat
  | 0 => 0
  | k + 1 => if e ≤ hayK y e k then enK y e k + 1 else enK y e k
theorem hay_in {y e : Int} (hy : 0 ≤ y ∧ y ≤ 1000000) (he : 0 ≤ e) : ∀ k, 0 ≤ hayK y e k ∧ hayK y e k ≤ 1000000
  | 0 => hy
  | k + 1 => by
    have := hay_in hy he k
    simp only [hayK]
    split <;> omega
theorem en_le (y e : Int) : ∀ k, enK y e k ≤ k
  | 0 => Nat.le_refl _
  | k + 1 => by
    have := en_le y e k
    simp only [enK]
    split <;> omega
theorem hay_yes {y e : Int} {k : Nat} (h : e ≤ hayK y e k) : hayK y e (k + 1) = hayK y e k - e ∧ enK y e (k + 1) = enK y e k + 1 := by simp [hayK, enK, h]
theorem hay_no {y e : Int} {k : Nat} (h : ¬ e ≤ hayK y e k) : hayK y e (k + 1) = 0 ∧ enK y e (k + 1) = enK y e k := by simp [hayK, enK, h]
/-- What FeedHay answers. -/
def feedB (y e d : Int) : Bool := inB 0 1000000 y && inB 0 100000 e && inB 0 365 d
def feedR (y e d : Int) : Value := if feedB y e d then num3 (hayK y e d.toNat) (enK y e d.toNat) 0 else num3 0 0 2
theorem feed_no {y e d : Int} (h : feedB y e d = false) : feedR y e d = num3 0 0 2 := by simp [feedR, h]
theorem feed_ok {y e : Int} {d : Nat} (h : feedB y e d = true) : feedR y e d = num3 (hayK y e d) (enK y e d) 0 := by simp [feedR, h]
def HayIn (y e : Int) (n : Nat) (w : World) (a b i : Value) (wr : World) : Prop :=
  ∃ k : Nat, k ≤ n ∧ a = .int .i64 (hayK y e k) ∧ b = .int .i64 (enK y e k : Nat) ∧ i = .int .i64 k ∧ Below w.heap.size w wr

set_option maxRecDepth 100000 in
set_option maxHeartbeats 2000000 in
theorem specFeedHay_any (y e d : Int) (w : World) :
    Calls Tryd.prog 31 #[.int .i64 y, .int .i64 e, .int .i64 d] w fun r w' => r = .returned (feedR y e d) ∧ Below w.heap.size w w' := by
  have hM := Mem.nil w
  cases h1 : inB 0 1000000 y
  · have Hr := Lib.hid (feed_no (y := y) (e := e) (d := d) (by simp [feedB, h1]))
    have H1 := Lib.hid h1
    clear h1
    go_enter Tryd.func31, Tryd.ntmps31
    go_wp2_with (first | (go_at_call 46; (with_reducible refine (l00In_any y _ _ _).mono ?_); rintro e W' ⟨rfl, hb'⟩; rw [H1.out]; have hM' := hM.call hb'; clear hM hb'; have hM := hM'; clear hM'))
    refine bodyPost_ret (results_tmp3 rfl _ _ _) rfl ?_
    exact ⟨by rw [Hr.out]; rfl, hM.below⟩
  cases h2 : inB 0 100000 e
  · have Hr := Lib.hid (feed_no (y := y) (e := e) (d := d) (by simp [feedB, h2]))
    have H1 := Lib.hid h1
    have H2 := Lib.hid h2
    clear h1 h2
    go_enter Tryd.func31, Tryd.ntmps31
    go_wp2_with (first | (go_at_call 46; (with_reducible refine (l00In_any y _ _ _).mono ?_); rintro e W' ⟨rfl, hb'⟩; rw [H1.out]; have hM' := hM.call hb'; clear hM hb'; have hM := hM'; clear hM') | (go_at_call 67; (with_reducible refine (l04Eats_any e _).mono ?_); rintro e W' ⟨rfl, hb'⟩; rw [H2.out]; have hM' := hM.call hb'; clear hM hb'; have hM := hM'; clear hM'))
    refine bodyPost_ret (results_tmp3 rfl _ _ _) rfl ?_
    exact ⟨by rw [Hr.out]; rfl, hM.below⟩
  cases h3 : inB 0 365 d
  · have Hr := Lib.hid (feed_no (y := y) (e := e) (d := d) (by simp [feedB, h3]))
    have H1 := Lib.hid h1
    have H2 := Lib.hid h2
    have H3 := Lib.hid h3
    clear h1 h2 h3
    go_enter Tryd.func31, Tryd.ntmps31
    go_wp2_with (first | (go_at_call 46; (with_reducible refine (l00In_any y _ _ _).mono ?_); rintro e W' ⟨rfl, hb'⟩; rw [H1.out]; have hM' := hM.call hb'; clear hM hb'; have hM := hM'; clear hM') | (go_at_call 67; (with_reducible refine (l04Eats_any e _).mono ?_); rintro e W' ⟨rfl, hb'⟩; rw [H2.out]; have hM' := hM.call hb'; clear hM hb'; have hM := hM'; clear hM') | (go_at_call 68; (with_reducible refine (l04Day_any d _).mono ?_); rintro e W' ⟨rfl, hb'⟩; rw [H3.out]; have hM' := hM.call hb'; clear hM hb'; have hM := hM'; clear hM'))
    refine bodyPost_ret (results_tmp3 rfl _ _ _) rfl ?_
    exact ⟨by rw [Hr.out]; rfl, hM.below⟩
  have b1 := inB_true h1
  have b2 := inB_true h2
  have b3 := inB_true h3
  obtain ⟨n, rfl⟩ : ∃ n : Nat, d = n := ⟨d.toNat, by omega⟩
  have Hr := Lib.hid (feed_ok (y := y) (e := e) (d := n) (by simp [feedB, h1, h2, h3]))
  have H1 := Lib.hid h1
  have H2 := Lib.hid h2
  have H3 := Lib.hid h3
  clear h1 h2 h3
  go_enter Tryd.func31, Tryd.ntmps31
  go_wp2_with (first | (go_at_call 46; (with_reducible refine (l00In_any y _ _ _).mono ?_); rintro e W' ⟨rfl, hb'⟩; rw [H1.out]; have hM' := hM.call hb'; clear hM hb'; have hM := hM'; clear hM') | (go_at_call 67; (with_reducible refine (l04Eats_any e _).mono ?_); rintro e W' ⟨rfl, hb'⟩; rw [H2.out]; have hM' := hM.call hb'; clear hM hb'; have hM := hM'; clear hM') | (go_at_call 68; (with_reducible refine (l04Day_any _ _).mono ?_); rintro e W' ⟨rfl, hb'⟩; rw [H3.out]; have hM' := hM.call hb'; clear hM hb'; have hM := hM'; clear hM'))
  have hB := hM.below
  clear hM
  go_loopw [0, 9, 10] (fun a b i wr => HayIn y e n w a b i wr) (fun _ _ i _ => n - (intOf i).toNat)
  case atStart => exact ⟨0, by omega, rfl, rfl, rfl, hB⟩
  case round =>
    clear hB
    obtain ⟨k, hk, rfl, rfl, rfl, hB⟩ := hrel
    by_cases hlt : k < n
    · have lk : (k : Int) < n := by omega
      have hh := hay_in b1 b2.1 k
      have hn := en_le y e k
      have c1 : IntKind.i64.wrap ((enK y e k : Nat) + 1 : Int) = ((enK y e k : Nat) + 1 : Int) := IntWalk.i64_in _ (by omega)
      have hM := Mem.start (w := Base.of w) hB
      clear hB
      by_cases hc : e ≤ hayK y e k
      · have Hs := Lib.hid (hay_yes hc)
        have c2 : IntKind.i64.wrap (hayK y e k - e) = hayK y e k - e := IntWalk.i64_in _ (by omega)
        have Hm : Hid (minB (hayK y e k) e = e) := Lib.hid (minB_ge (by omega))
        clear hh hn
        go_wp2_with (first | (go_at_call 69; (with_reducible refine (l00Min_any (hayK y e k) e _).mono ?_); rintro e W' ⟨rfl, hb'⟩; rw [Hm.out]; have hM' := hM.call hb'; clear hM hb'; have hM := hM'; clear hM'))
        go_roundw
        case rel => exact (⟨k + 1, by omega, by rw [Hs.out.1], by simp only [Hs.out.2]; first | done | rfl | exact congrArg _ (by omega), by go_num, hM.below⟩ : HayIn y e n w _ _ _ _)
        case measure => simp [intOf]; omega
      · have Hs := Lib.hid (hay_no hc)
        have Hm : Hid (minB (hayK y e k) e = hayK y e k) := Lib.hid (minB_lt (by omega))
        clear hh hn
        go_wp2_with (first | (go_at_call 69; (with_reducible refine (l00Min_any (hayK y e k) e _).mono ?_); rintro e W' ⟨rfl, hb'⟩; rw [Hm.out]; have hM' := hM.call hb'; clear hM hb'; have hM := hM'; clear hM'))
        go_roundw
        case rel => exact (⟨k + 1, by omega, by rw [Hs.out.1], by rw [Hs.out.2], by go_num, hM.below⟩ : HayIn y e n w _ _ _ _)
        case measure => simp [intOf]; omega
    · obtain rfl : k = n := by omega
      go_wp2
      refine bodyPost_ret (results_tmp3 rfl _ _ _) rfl ?_
      exact ⟨by rw [Hr.out]; rfl, hB⟩

set_option maxRecDepth 100000 in
set_option maxHeartbeats 2000000 in
theorem implFeedHay_any {a : Nat → Addr} (y e d : Int) (w : World) (hE : Errs a w) :
    Calls Tryd.prog 32 #[.int .i64 y, .int .i64 e, .int .i64 d] w fun r w' => r = .returned (feedR y e d) ∧ Below w.heap.size w w' := by
  have hM := Mem.nil w
  have HE := Lib.hid hE
  clear hE
  cases hi : feedB y e d
  · have Hr := Lib.hid (feed_no hi)
    have Hc := Lib.hid (cnt3_yes (p := !inB 0 1000000 y) (q := !inB 0 100000 e) (r := !inB 0 365 d) (by unfold feedB at hi; revert hi; cases inB 0 1000000 y <;> cases inB 0 100000 e <;> cases inB 0 365 d <;> decide))
    have Hl := Lib.hid (Nat.le_trans (cntE_le (es3 (!inB 0 1000000 y) (!inB 0 100000 e) (!inB 0 365 d)) 3) (show 3 ≤ 1000 by omega))
    clear hi
    go_enter Tryd.func32, Tryd.ntmps32
    go_wp2_with (first | (go_at_call 51; (with_reducible refine (checkUpTo_any _ _ _ (HE.out.below hM.below)).mono ?_); rintro e W' ⟨rfl, hb'⟩; have hM' := hM.call hb'; clear hM hb'; have hM := hM'; clear hM') | (refine wpList_lit3 rfl _ _ _ _ _ rfl (errO (a 1) (!inB 0 1000000 y)) (errO (a 1) (!inB 0 100000 e)) (errO (a 1) (!inB 0 365 d)) rfl rfl rfl (errO_one _ _) (errO_one _ _) (errO_one _ _) _ errs_under err_info2 hM ?_; intro bn W' hbn hM'; clear hM; have hM := hM'; clear hM') | (go_at_call 65; refine (join_some (a 1) (es3 (!inB 0 1000000 y) (!inB 0 100000 e) (!inB 0 365 d)) _ 3 3 (by omega) Hc.out _ ((hM.ats 0 _ _ _ rfl).congr (lit3_errE _ _ _ _))).mono ?_; rintro e W' ⟨jb, rfl, hJ, hb'⟩; have hM' := hM.call hb'; clear hM hb'; have hM := hM'; clear hM') | (go_at_call 50; (refine (codeJ_1 jb _ Hc.out Hl.out (HE.out.below hM.below) hJ).mono ?_); rintro e W' ⟨rfl, rfl⟩))
    refine bodyPost_ret (results_tmp3 rfl _ _ _) rfl ?_
    exact ⟨by rw [Hr.out]; rfl, hM.below⟩
  have hi' := hi
  unfold feedB at hi
  rw [Bool.and_eq_true, Bool.and_eq_true] at hi
  have b1 := inB_true hi.1.1
  have b2 := inB_true hi.1.2
  have b3 := inB_true hi.2
  obtain ⟨n, rfl⟩ : ∃ n : Nat, d = n := ⟨d.toNat, by omega⟩
  have Hr := Lib.hid (feed_ok hi')
  have H1 := Lib.hid hi.1.1
  have H2 := Lib.hid hi.1.2
  have H3 := Lib.hid hi.2
  clear hi hi'
  go_enter Tryd.func32, Tryd.ntmps32
  go_wp2_with (first | (go_at_call 51; (with_reducible refine (checkUpTo_yes _ _ _ H1.out).mono ?_); rintro e W' ⟨rfl, hb'⟩; have hM' := hM.call hb'; clear hM hb'; have hM := hM'; clear hM') | (go_at_call 51; (with_reducible refine (checkUpTo_yes _ _ _ H2.out).mono ?_); rintro e W' ⟨rfl, hb'⟩; have hM' := hM.call hb'; clear hM hb'; have hM := hM'; clear hM') | (go_at_call 51; (with_reducible refine (checkUpTo_yes _ _ _ H3.out).mono ?_); rintro e W' ⟨rfl, hb'⟩; have hM' := hM.call hb'; clear hM hb'; have hM := hM'; clear hM') | (refine wpList_lit3 rfl _ _ _ _ _ rfl (errO (a 1) false) (errO (a 1) false) (errO (a 1) false) rfl rfl rfl (errO_one _ _) (errO_one _ _) (errO_one _ _) _ errs_under err_info2 hM ?_; intro bn W' hbn hM'; clear hM; have hM := hM'; clear hM') | (go_at_call 65; refine (join_none (a 1) (es3 false false false) _ 3 3 (by omega) cnt3_no _ ((hM.ats 0 _ _ _ rfl).congr (lit3_errE _ _ _ _))).mono ?_; rintro e W' ⟨rfl, hb'⟩; have hM' := hM.call hb'; clear hM hb'; have hM := hM'.drop; clear hM'))
  have hB := hM.below
  clear hM
  go_loopw [0, 10, 24] (fun a b i wr => HayIn y e n w a b i wr) (fun _ _ i _ => n - (intOf i).toNat)
  case atStart => exact ⟨0, by omega, rfl, rfl, rfl, hB⟩
  case round =>
    clear hB
    obtain ⟨k, hk, rfl, rfl, rfl, hB⟩ := hrel
    by_cases hlt : k < n
    · have lk : (k : Int) < n := by omega
      have hh := hay_in b1 b2.1 k
      have hn := en_le y e k
      have c1 : IntKind.i64.wrap ((enK y e k : Nat) + 1 : Int) = ((enK y e k : Nat) + 1 : Int) := IntWalk.i64_in _ (by omega)
      by_cases hc : e ≤ hayK y e k
      · have Hs := Lib.hid (hay_yes hc)
        have c2 : IntKind.i64.wrap (hayK y e k - e) = hayK y e k - e := IntWalk.i64_in _ (by omega)
        by_cases hc2 : e < hayK y e k
        · clear hh hn
          go_wp2
          go_roundw
          case rel => exact (⟨k + 1, by omega, by rw [Hs.out.1], by simp only [Hs.out.2]; first | done | rfl | exact congrArg _ (by omega), by go_num, hB⟩ : HayIn y e n w _ _ _ _)
          case measure => simp [intOf]; omega
        · have hz : Hid (hayK y e k - e = 0) := Lib.hid (by omega)
          clear hh hn
          go_wp2
          go_roundw
          case rel => exact (⟨k + 1, by omega, by rw [Hs.out.1, hz.out], by simp only [Hs.out.2]; first | done | rfl | exact congrArg _ (by omega), by go_num, hB⟩ : HayIn y e n w _ _ _ _)
          case measure => simp [intOf]; omega
      · have Hs := Lib.hid (hay_no hc)
        have hc2 : ¬ e < hayK y e k := by omega
        clear hh hn
        go_wp2
        go_roundw
        case rel => exact (⟨k + 1, by omega, by rw [Hs.out.1], by rw [Hs.out.2], by go_num, hB⟩ : HayIn y e n w _ _ _ _)
        case measure => simp [intOf]; omega
    · obtain rfl : k = n := by omega
      go_wp2
      refine bodyPost_ret (results_tmp3 rfl _ _ _) rfl ?_
      exact ⟨by rw [Hr.out]; rfl, hB⟩

theorem feedR_num (y e d : Int) : ∃ r s c, feedR y e d = num3 r s c := by
  unfold feedR; split <;> exact ⟨_, _, _, rfl⟩

set_option maxRecDepth 100000 in
set_option maxHeartbeats 1000000 in
theorem lawFeedHay_any {a : Nat → Addr} (y e d : Int) (w : World) (hE : Errs a w) :
    Calls Tryd.prog 8 #[.int .i64 y, .int .i64 e, .int .i64 d] w fun e w' => e = .returned (.bool true) ∧ Below w.heap.size w w' := by
  have hM := Mem.nil w
  have HE := Lib.hid hE
  have hS := fun W => specFeedHay_any y e d W
  have hI := fun W hE => implFeedHay_any (a := a) y e d W hE
  obtain ⟨r, s, c, hq⟩ := feedR_num y e d
  rw [hq] at hS hI
  have Hz := Lib.hid (num3_eq r s c)
  have HS := Lib.hid hS
  have HI := Lib.hid hI
  clear hE hS hI hq
  go_enter Tryd.func8, Tryd.ntmps8
  go_wp2_with (first | (go_at_call 31; (with_reducible refine (HS.out _).mono ?_); rintro e W' ⟨rfl, hb'⟩; rw [Hz.out]; have hM' := hM.call hb'; clear hM hb'; have hM := hM'; clear hM') | (go_at_call 32; (with_reducible refine (HI.out _ (HE.out.below hM.below)).mono ?_); rintro e W' ⟨rfl, hb'⟩; rw [Hz.out]; have hM' := hM.call hb'; clear hM hb'; have hM := hM'; clear hM'))
  go_ret
  exact ⟨rfl, hM.below⟩
end Go.Proofs.YtjfmhnbbdkejeaaDoor

/-
  spec.l01Mask of no cells, spec.l04Grow, l04Days, l04Asked, GrowDays and GrowOnce by contracts.
-/
namespace Go.Proofs.YtjfmhnbbdkejeaaDoor
open Go Go.RowKit Go.BigFrame

/-- Three results, the first in memory. -/
theorem results_at3 {P : Program} {fn : Func} {p q r : Tmp} {ty : TypeId} (h : fn.results = #[.cell p ty, .tmp q, .tmp r]) (tmps : Array Value) {W : World} {b n : Nat} {f : Nat → Value}
    (hp : tmps.getD p undef = .pointer (some ⟨b, 0, none⟩)) (hg : At W b n f) (hT : RowT P ty n) :
    (results fn tmps).run P W = .ok (.tuple #[.agg (arr n f), tmps.getD q undef, tmps.getD r undef]) W := by
  have e : (asAddr (.pointer (some ⟨b, 0, none⟩))).run P W = .ok ⟨b, 0, none⟩ W := rfl
  have e2 := loadVar_at hg hT
  rw [Array.getD_eq_getD_getElem?] at hp
  simp [results, h, hp, e, e2]

def fls : Nat → Value := fun _ => .bool false
theorem build_mask (W : World) : (Instr.build 158 #[]).run Tryd.prog W = .ok (.agg (arr 100 fls)) W := by kernel_rfl
theorem wpList_buildM {ops : Array Oper} {rest : List Oper} {o : Oper} {a : Act} {W : World} {Q : Exit → Act → World → Prop} (hgd : o.guard = none) (ho : o.op = .build 158 #[])
    (h : wpList Tryd.prog ops Q rest (a.put o.dst (.agg (arr 100 fls))) W) : wpList Tryd.prog ops Q (o :: rest) a W := by
  refine wpList_plain hgd fun K hK => ?_
  unfold Oper.wp execOp
  simp only [ho, Array.map_empty, Sem.run_bind, Sem.run_pure, build_mask, Result.andThen_ok]
  exact hK _ _ h
theorem lay_fls (f : Nat → Value) : ∀ k, k < 100 → lay f 0 100 fls k = fls k := fun k hk => by simp [lay, hk, fls]
theorem lay_fls0 (f g : Nat → Value) : ∀ k, k < 100 → lay f 0 100 (fun j => lay g 0 100 fls (0 + j)) k = fls k := fun k hk => by simp [lay, hk, fls]

set_option maxRecDepth 100000 in
set_option maxHeartbeats 1000000 in
theorem l01Mask_nil (w : World) :
    Calls Tryd.prog 105 #[.slice none 0 0] w fun e w' => e = .returned (.agg (arr 100 fls)) ∧ Below w.heap.size w w' := by
  have hM := Mem.nil w
  have tk_b1 : True := trivial; have tk_b2 : True := trivial; have tk_q1 : True := trivial
  go_enter Tryd.func105, Tryd.ntmps105
  go_wp2_with (first | (have _t := tk_b1; refine wpList_zero rfl _ rfl (zeroTab _ _ _ rfl) hM ?_; intro b1 W' hb1 hM'; clear hM tk_b1; have hM := hM'; clear hM') | (refine wpList_buildM rfl rfl ?_) | (have _t := tk_b2; refine wpList_zero rfl _ rfl (zeroTab _ _ _ rfl) hM ?_; intro b2 W' hb2 hM'; clear hM tk_b2; have hM := hM'; clear hM') | (have _t := tk_q1; (refine wpList_lay rfl _ _ _ rfl _ _ rfl _ _ rfl hM 0 rfl (by assumption) (rowTab _ _ rfl) (by omega) ?_ ?_; (first | (intro _ _; rfl) | (intro k _; exact h1 _) | (intro k _; simp only [lay, upd]; (repeat' split) <;> first | exact h1 _ | rfl)); intro W' hM'; clear hM; have hM := hM'; clear hM'; simp only [List.set] at hM); clear tk_q1))
  refine wp_loop_rounds 1 ?_
  rw [rounds_succ]
  go_wp2_with (first | (refine wpList_get rfl _ _ rfl _ _ rfl hM 0 rfl (rowTab _ _ rfl) (by omega) ?_) | (refine wpList_lay rfl _ _ _ rfl _ _ rfl _ _ rfl hM 1 rfl (by assumption) (rowTab _ _ rfl) (by omega) ?_ ?_; (first | (intro _ _; rfl) | (intro k _; exact h1 _) | (intro k _; simp only [lay, upd]; (repeat' split) <;> first | exact h1 _ | rfl)); intro W' hM'; clear hM; have hM := hM'; clear hM'; simp only [List.set] at hM))
  exact bodyPost_ret (results_at rfl _ rfl ((hM.ats 1 _ _ _ rfl).congr (lay_fls0 _ _)) (rowTab _ _ rfl)) rfl ⟨rfl, hM.below⟩
theorem lay_pasz (f : Nat → Value) (g : Nat → Int) : ∀ k, k < 122 → lay f 0 122 (fun j => pas g (0 + j)) k = pas g k := fun k hk => by simp [lay, hk]
theorem lay_pasy (f : Nat → Value) (g : Nat → Int) : ∀ k, k < 122 → lay f 0 122 (pas g) k = pas g k := fun k hk => by simp [lay, hk]

set_option maxRecDepth 100000 in
set_option maxHeartbeats 4000000 in
theorem l04Grow_any (h p : Nat → Int) (e : growB h = true) (hp : GrassOk p) (W H : Nat) (hW : 1 ≤ W ∧ W ≤ 10) (hH : 1 ≤ H ∧ H ≤ 10) (p0 : p 0 = W) (p1 : p 1 = H) (bg : Nat) (w : World) (hA : At w bg 12 (gro h)) :
    Calls Tryd.prog 75 #[.agg (arr 122 (pas p)), .pointer (some ⟨bg, 0, none⟩), .slice none 0 0] w fun e w' => e = .returned (.agg (arr 122 (pas (growT h p W (W * H))))) ∧ Below w.heap.size w w' := by
  have hM : Mem w [(bg, 12, gro h)] w := (Mem.nil w).old hA (fun i p h => by simp at h)
  have Hp := Lib.hid hp
  have He := Lib.hid e
  clear hA hp e
  have tk_b1 : True := trivial; have tk_b2 : True := trivial; have tk_b3 : True := trivial; have tk_q1 : True := trivial
  go_enter Tryd.func75, Tryd.ntmps75
  go_wp2_with (first | (have _t := tk_b1; refine wpList_box rfl _ _ rfl _ _ rfl hM ?_; intro b1 W' hb1 hM'; clear hM tk_b1; have hM := hM'; clear hM') | (have _t := tk_b2; refine wpList_zero rfl _ rfl (zeroTab _ _ _ rfl) hM ?_; intro b2 W' hb2 hM'; clear hM tk_b2; have hM := hM'; clear hM') | (go_at_call 105; (with_reducible refine (l01Mask_nil _).mono ?_); rintro e W' ⟨rfl, hb'⟩; have hM' := hM.call hb'; clear hM hb'; have hM := hM'; clear hM') | (have _t := tk_b3; refine wpList_zero rfl _ rfl (zeroTab _ _ _ rfl) hM ?_; intro b3 W' hb3 hM'; clear hM tk_b3; have hM := hM'; clear hM') | (have _t := tk_q1; (refine wpList_lay rfl _ _ _ rfl _ _ rfl _ _ rfl hM 0 rfl (by assumption) (rowTab _ _ rfl) (by omega) ?_ ?_; (first | (intro _ _; rfl) | (intro k _; exact h1 _) | (intro k _; simp only [lay, upd]; (repeat' split) <;> first | exact h1 _ | rfl)); intro W' hM'; clear hM; have hM := hM'; clear hM'; simp only [List.set] at hM); clear tk_q1))
  have hM0 := hM.re 0 rfl fls (lay_fls _)
  simp only [List.set_cons_zero] at hM0
  clear hM
  have hM := hM0
  clear hM0
  rw [← growT_zero h p W] at hM
  have hz : growT h p W (0 * W) = growT h p W 0 := by rw [Nat.zero_mul]
  rw [← hz] at hM
  go_loopw [8] (fun y wr => ∃ k : Nat, k ≤ H ∧ y = .int .i8 k ∧ Mem w [(b3, 100, fls), (b2, 122, zP), (b1, 122, pas (growT h p W (k * W))), (bg, 12, gro h)] wr) (fun y _ => H - (intOf y).toNat)
  case atStart => exact ⟨0, by omega, rfl, hM⟩
  case round =>
    clear hM hz
    obtain ⟨k, hk, rfl, hM⟩ := hrel
    have e1 : pas (growT h p W (k * W)) 1 = .int .i8 (H : Int) := by rw [← p1, ← growT_head h p W (k * W) 1 (by omega)]; rfl
    by_cases hlt : k < H
    · have lk : (k : Int) < H := by omega
      go_wp2_with (first | (refine wpList_get1 rfl _ _ rfl _ _ rfl hM 2 rfl (cellTab _ rfl) (by omega) _ e1 ?_))
      have hz : growT h p W (k * W + 0) = growT h p W (k * W) := by rw [Nat.add_zero]
      rw [← hz] at hM
      go_loopw [9] (fun x wr => ∃ j : Nat, j ≤ W ∧ x = .int .i8 j ∧ Mem w [(b3, 100, fls), (b2, 122, zP), (b1, 122, pas (growT h p W (k * W + j))), (bg, 12, gro h)] wr) (fun x _ => W - (intOf x).toNat)
      case atStart => exact ⟨0, by omega, rfl, hM⟩
      case round =>
        clear hM hz e1
        obtain ⟨j, hj, rfl, hM⟩ := hrel
        have e0 : pas (growT h p W (k * W + j)) 0 = .int .i8 (W : Int) := by rw [← p0, ← growT_head h p W (k * W + j) 0 (by omega)]; rfl
        by_cases hjl : j < W
        · have lj : (j : Int) < W := by omega
          have lj' : (j : Int) < 10 := by omega
          have lk' : (k : Int) < 10 := by omega
          have hr := Hp.out.at (k := k) (j := j) (by omega) (by omega)
          have ep := pas_i16 (growT h p W (k * W + j)) (k := 2 + k * 10 + j) (by omega) (by omega)
          rw [growT_at h p W k j hjl hW.2 (by omega)] at ep
          have hs := growT_succ h p W k j hjl hW.2 (by omega)
          obtain ⟨n, hn⟩ : ∃ n : Nat, p (2 + k * 10 + j) = n := ⟨(p (2 + k * 10 + j)).toNat, by omega⟩
          rw [hn] at ep hr hs
          have hl := later_in He.out (n := n) (by omega)
          rw [Int.toNat_natCast] at hs
          have Hs := Lib.hid hs
          have c0 : IntKind.i64.wrap (n : Int) = n := IntWalk.i64_in _ (by omega)
          have c1 : IntKind.i16.wrap (laterN h n) = laterN h n := IntWalk.i16_in _ (by omega)
          have hn1 : n ≤ 1000 := by omega
          have ef : fls (k * 10 + j) = .bool false := rfl
          clear hl hr hs hn
          go_wp2_with (first | (refine wpList_get1 rfl _ _ rfl _ _ rfl hM 2 rfl (cellTab _ rfl) (by omega) _ e0 ?_) | (refine wpList_get1 rfl _ _ rfl _ _ rfl hM 0 rfl (cellTab _ rfl) (by omega) _ (by first | exact ef | rfl) ?_))
          ((try simp only [Act.put, List.setIfInBounds_toArray, List.set_cons_succ, List.set_cons_zero]); refine region_head_mem (m := 15) (by kernel_rfl) (by kernel_rfl) hM ?_; clear hM; simp only [List.take_succ_cons, List.take_zero, List.drop_succ_cons, List.drop_zero]; (repeat (first | go_big_quiet_skip | (go_big_quiet_want; first | (refine quiet_get1 _ _ rfl _ _ rfl 2 rfl (cellTab _ rfl) (by omega) _ (ep) ?_; (simp only [Act.put, List.setIfInBounds_toArray, List.set_cons_succ, List.set_cons_zero]); go_big_quiet_on) | (refine quiet_call ?_; apply Exists.intro; apply Exists.intro; apply Exists.intro; refine ⟨fun W => ?_, fun W hM => ?_, ?_⟩; (go_simp; exact ⟨rfl, rfl⟩); (with_reducible exact l04Cell_any h He.out bg n hn1 W (hM.ats 3 _ _ _ rfl)); (simp only [Act.put, List.setIfInBounds_toArray, List.set_cons_succ, List.set_cons_zero]); go_big_quiet_on) | (refine quiet_val ?_; apply Exists.intro; refine ⟨fun W => ?_, ?_⟩; (go_simp; (try simp only [lj', lk', c0, c1, if_true, Bool.false_eq_true, if_false]); rfl); (simp only [Act.put, List.setIfInBounds_toArray, List.set_cons_succ, List.set_cons_zero]); go_big_quiet_on)))); (with_reducible refine wpQuiet_nil ?_); intro W' hM)
          go_wp2_with (first | (refine wpList_set1 rfl _ _ _ rfl _ _ rfl _ rfl ?_ hM 2 rfl (by assumption) (cellTab _ rfl) (by omega) ?_; (first | rfl | exact h1 _); intro W' hM'; clear hM; have hM := hM'; clear hM'; simp [List.set, Act.eval] at hM))
          rw [upd_pas _ _ _ (by omega) (by omega), Hs.out] at hM
          go_roundw
          case rel => exact ⟨j + 1, by omega, by go_num, hM⟩
          case measure => simp [intOf]; omega
        · obtain rfl : j = W := by omega
          have e3 : k * j + j = (k + 1) * j := by rw [Nat.add_mul, Nat.one_mul]
          rw [e3] at hM
          rw [e3] at e0
          clear e3
          go_wp2_with (first | (refine wpList_get1 rfl _ _ rfl _ _ rfl hM 2 rfl (cellTab _ rfl) (by omega) _ e0 ?_))
          go_roundw
          case rel => exact ⟨k + 1, by omega, by go_num, hM⟩
          case measure => simp [intOf]; omega
    · obtain rfl : k = H := by omega
      rw [Nat.mul_comm] at hM e1
      go_wp2_with (first | (refine wpList_get1 rfl _ _ rfl _ _ rfl hM 2 rfl (cellTab _ rfl) (by omega) _ e1 ?_) | (refine wpList_get rfl _ _ rfl _ _ rfl hM 2 rfl (rowTab _ _ rfl) (by omega) ?_) | (refine wpList_lay rfl _ _ _ rfl _ _ rfl _ _ rfl hM 1 rfl (by assumption) (rowTab _ _ rfl) (by omega) ?_ ?_; (first | (intro _ _; rfl) | (intro k _; exact h1 _) | (intro k _; simp only [lay, upd]; (repeat' split) <;> first | exact h1 _ | rfl)); intro W' hM'; clear hM; have hM := hM'; clear hM'; simp only [List.set] at hM))
      exact bodyPost_ret (results_at rfl _ rfl ((hM.ats 1 _ _ _ rfl).congr (lay_pasz _ _)) (rowTab _ _ rfl)) rfl ⟨rfl, hM.below⟩

set_option maxRecDepth 100000 in
set_option maxHeartbeats 1000000 in
theorem l04Days_any (h p : Nat → Int) (e : growB h = true) (hp : GrassOk p) (W H : Nat) (hW : 1 ≤ W ∧ W ≤ 10) (hH : 1 ≤ H ∧ H ≤ 10) (p0 : p 0 = W) (p1 : p 1 = H) (bg n : Nat) (hn : n ≤ 365) (w : World) (hA : At w bg 12 (gro h)) :
    Calls Tryd.prog 78 #[.agg (arr 122 (pas p)), .pointer (some ⟨bg, 0, none⟩), .int .i64 n] w fun e w' => e = .returned (.agg (arr 122 (pas (dayG h p W H n)))) ∧ Below w.heap.size w w' := by
  have hM : Mem w [(bg, 12, gro h)] w := (Mem.nil w).old hA (fun i p h => by simp at h)
  have Hp := Lib.hid hp
  have He := Lib.hid e
  clear hA hp e
  have tk_b1 : True := trivial; have tk_b2 : True := trivial
  go_enter Tryd.func78, Tryd.ntmps78
  go_wp2_with (first | (have _t := tk_b1; refine wpList_box rfl _ _ rfl _ _ rfl hM ?_; intro b1 W' hb1 hM'; clear hM tk_b1; have hM := hM'; clear hM') | (have _t := tk_b2; refine wpList_zero rfl _ rfl (zeroTab _ _ _ rfl) hM ?_; intro b2 W' hb2 hM'; clear hM tk_b2; have hM := hM'; clear hM'))
  go_loopw [7] (fun d wr => ∃ k : Nat, k ≤ n ∧ d = .int .i64 k ∧ Mem w [(b2, 122, zP), (b1, 122, pas (dayG h p W H k)), (bg, 12, gro h)] wr) (fun d _ => n - (intOf d).toNat)
  case atStart => exact ⟨0, by omega, rfl, hM⟩
  case round =>
    clear hM
    obtain ⟨k, hk, rfl, hM⟩ := hrel
    by_cases hlt : k < n
    · have lk : (k : Int) < n := by omega
      have hq := dayG_in He.out Hp.out W H k
      have q0 : dayG h p W H k 0 = W := by rw [dayG_head h p W H 0 (by omega)]; exact p0
      have q1 : dayG h p W H k 1 = H := by rw [dayG_head h p W H 1 (by omega)]; exact p1
      have Hs : Hid (growT h (dayG h p W H k) W (W * H) = dayG h p W H (k + 1)) := Lib.hid rfl
      generalize dayG h p W H k = D at *
      have Hq := Lib.hid hq
      clear hq
      go_wp2_with (first | (refine wpList_get rfl _ _ rfl _ _ rfl hM 1 rfl (rowTab _ _ rfl) (by omega) ?_) | (go_at_call 75; (with_reducible refine (l04Grow_any h D He.out Hq.out W H hW hH q0 q1 bg _ (hM.ats 2 _ _ _ rfl)).mono ?_); rintro e W' ⟨rfl, hb'⟩; have hM' := hM.call hb'; clear hM hb'; have hM := hM'; clear hM') | (refine wpList_lay rfl _ _ _ rfl _ _ rfl _ _ rfl hM 1 rfl (by assumption) (rowTab _ _ rfl) (by omega) ?_ ?_; (first | (intro _ _; rfl) | (intro k _; exact h1 _) | (intro k _; simp only [lay, upd]; (repeat' split) <;> first | exact h1 _ | rfl)); intro W' hM'; clear hM; have hM := hM'; clear hM'; simp only [List.set] at hM))
      have hM2 := hM.re 1 rfl (pas (dayG h p W H (k + 1))) (fun q hq => by rw [lay_pasy _ _ q hq, Hs.out])
      simp only [List.set] at hM2
      go_roundw
      case rel => exact ⟨k + 1, by omega, by go_num, hM2⟩
      case measure => simp [intOf]; omega
    · obtain rfl : k = n := by omega
      go_wp2_with (first | (refine wpList_get rfl _ _ rfl _ _ rfl hM 1 rfl (rowTab _ _ rfl) (by omega) ?_) | (refine wpList_lay rfl _ _ _ rfl _ _ rfl _ _ rfl hM 0 rfl (by assumption) (rowTab _ _ rfl) (by omega) ?_ ?_; (first | (intro _ _; rfl) | (intro k _; exact h1 _) | (intro k _; simp only [lay, upd]; (repeat' split) <;> first | exact h1 _ | rfl)); intro W' hM'; clear hM; have hM := hM'; clear hM'; simp only [List.set] at hM))
      exact bodyPost_ret (results_at rfl _ rfl ((hM.ats 0 _ _ _ rfl).congr (lay_pasz _ _)) (rowTab _ _ rfl)) rfl ⟨rfl, hM.below⟩

/-- The code of a pasture and a growth. -/
def askG (p h : Nat → Int) : Int := if okB p && growB h then 0 else 1
theorem askG_no {p h : Nat → Int} (e : (okB p && growB h) = false) : askG p h = 1 := by simp [askG, e]
theorem askG_yes {p h : Nat → Int} (e : (okB p && growB h) = true) : askG p h = 0 := by simp [askG, e]
set_option maxRecDepth 100000 in
set_option maxHeartbeats 1000000 in
theorem l04Asked_any (p : Nat → Int) (hp : Fits p) (h : Nat → Int) (hF : FitsW h) (bp bg : Nat) (w : World) (hA : At w bp 122 (pas p)) (hB : At w bg 12 (gro h)) (hne : bp ≠ bg) :
    Calls Tryd.prog 74 #[.pointer (some ⟨bp, 0, none⟩), .pointer (some ⟨bg, 0, none⟩)] w fun e w' => e = .returned (.int .i64 (askG p h)) ∧ Below w.heap.size w w' := by
  have hM0 : Mem w [(bp, 122, pas p)] w := (Mem.nil w).old hA (fun i p h => by simp at h)
  have hM := hM0.old hB (fun i x hi e => by
    match i, hi with
    | 0, hi => simp at hi; rw [← hi] at e; exact hne e
    | i + 1, hi => simp at hi)
  simp only [List.cons_append, List.nil_append] at hM
  have HF := Lib.hid hF
  clear hA hB hM0 hF
  cases h1 : okB p
  · have Hr : Hid (askG p h = 1) := Lib.hid (askG_no (by rw [h1]; rfl))
    have H1 := Lib.hid h1
    clear h1
    go_enter Tryd.func74, Tryd.ntmps74
    go_wp2_with (first | (go_at_call 70; (with_reducible refine (l01Ok_any p hp bp _ (hM.ats 0 _ _ _ rfl)).mono ?_); rintro e W' ⟨rfl, hb'⟩; rw [H1.out]; have hM' := hM.call hb'; clear hM hb'; have hM := hM'; clear hM'))
    go_ret
    exact ⟨by rw [Hr.out]; rfl, hM.below⟩
  cases h2 : growB h
  · have Hr : Hid (askG p h = 1) := Lib.hid (askG_no (by rw [h1, h2]; rfl))
    have H1 := Lib.hid h1
    have H2 := Lib.hid h2
    clear h1 h2
    go_enter Tryd.func74, Tryd.ntmps74
    go_wp2_with (first | (go_at_call 70; (with_reducible refine (l01Ok_any p hp bp _ (hM.ats 0 _ _ _ rfl)).mono ?_); rintro e W' ⟨rfl, hb'⟩; rw [H1.out]; have hM' := hM.call hb'; clear hM hb'; have hM := hM'; clear hM') | (go_at_call 58; (with_reducible refine (l04Ok_any h HF.out bg _ (hM.ats 1 _ _ _ rfl)).mono ?_); rintro e W' ⟨rfl, hb'⟩; rw [H2.out]; have hM' := hM.call hb'; clear hM hb'; have hM := hM'; clear hM'))
    go_ret
    exact ⟨by rw [Hr.out]; rfl, hM.below⟩
  · have Hr : Hid (askG p h = 0) := Lib.hid (askG_yes (by rw [h1, h2]; rfl))
    have H1 := Lib.hid h1
    have H2 := Lib.hid h2
    clear h1 h2
    go_enter Tryd.func74, Tryd.ntmps74
    go_wp2_with (first | (go_at_call 70; (with_reducible refine (l01Ok_any p hp bp _ (hM.ats 0 _ _ _ rfl)).mono ?_); rintro e W' ⟨rfl, hb'⟩; rw [H1.out]; have hM' := hM.call hb'; clear hM hb'; have hM := hM'; clear hM') | (go_at_call 58; (with_reducible refine (l04Ok_any h HF.out bg _ (hM.ats 1 _ _ _ rfl)).mono ?_); rintro e W' ⟨rfl, hb'⟩; rw [H2.out]; have hM' := hM.call hb'; clear hM hb'; have hM := hM'; clear hM'))
    go_ret
    exact ⟨by rw [Hr.out]; rfl, hM.below⟩
end Go.Proofs.YtjfmhnbbdkejeaaDoor

/-
  laws.eqInt16A10, eqInt16A10A10, eqUint16A10, eqPasture: true of what is equal.
-/
namespace Go.Proofs.YtjfmhnbbdkejeaaDoor
open Go Go.RowKit Go.BigFrame

set_option maxHeartbeats 400000 in
theorem eqInt16A10_same (h : Nat → Int) (w : World) :
    Calls Tryd.prog 106 #[.agg (arr 10 fun k => .int .i16 (h k)), .agg (arr 10 fun k => .int .i16 (h k))] w fun e w' => e = .returned (.bool true) ∧ Below w.heap.size w w' := by
  have hM := Mem.nil w
  have tk_b1 : True := trivial; have tk_b2 : True := trivial
  go_enter Tryd.func106, Tryd.ntmps106
  go_wp2_with (first | (have _t := tk_b1; refine wpList_box rfl _ _ rfl _ _ rfl hM ?_; intro b1 W' hb1 hM'; clear hM tk_b1; have hM := hM'; clear hM') | (have _t := tk_b2; refine wpList_box rfl _ _ rfl _ _ rfl hM ?_; intro b2 W' hb2 hM'; clear hM tk_b2; have hM := hM'; clear hM'))
  go_loopw [5] (fun i wr => ∃ k : Nat, k ≤ 10 ∧ i = .int .i64 k ∧ Mem w [(b2, 10, fun k => .int .i16 (h k)), (b1, 10, fun k => .int .i16 (h k))] wr) (fun i _ => 10 - (intOf i).toNat)
  case atStart => exact ⟨0, by omega, rfl, hM⟩
  case round =>
    clear hM
    obtain ⟨k, hk, rfl, hM⟩ := hrel
    by_cases hlt : k < 10
    · go_wp2
      have lk : (k : Int) < 10 := by omega
      ((try simp only [Act.put, List.setIfInBounds_toArray, List.set_cons_succ, List.set_cons_zero]); refine wp_region_mem (by kernel_rfl) (by kernel_rfl) hM ?_; clear hM; (repeat (first | go_big_quiet_skip | (go_big_quiet_want; first | (refine quiet_get1 _ _ rfl _ _ rfl 1 rfl (cellTab _ rfl) (by omega) (.int .i16 (h k)) rfl ?_; (simp only [Act.put, List.setIfInBounds_toArray, List.set_cons_succ, List.set_cons_zero]); go_big_quiet_on) | (refine quiet_get1 _ _ rfl _ _ rfl 0 rfl (cellTab _ rfl) (by omega) (.int .i16 (h k)) rfl ?_; (simp only [Act.put, List.setIfInBounds_toArray, List.set_cons_succ, List.set_cons_zero]); go_big_quiet_on) | (refine quiet_val ?_; apply Exists.intro; refine ⟨fun W => ?_, ?_⟩; (go_simp; (try simp only [lk, if_true, Bool.false_eq_true, if_false]); rfl); (simp only [Act.put, List.setIfInBounds_toArray, List.set_cons_succ, List.set_cons_zero]); go_big_quiet_on)))); (with_reducible refine wpQuiet_nil ?_); intro W' hM)
      go_wp2
      go_roundw
      case rel => exact ⟨k + 1, by omega, by go_num, hM⟩
      case measure => simp [intOf]; omega
    · obtain rfl : k = 10 := by omega
      go_wp2
      go_ret
      exact ⟨rfl, hM.below⟩
set_option maxHeartbeats 400000 in
theorem eqUint16A10_same (h : Nat → Int) (w : World) :
    Calls Tryd.prog 77 #[.agg (arr 10 fun k => .int .u16 (h k)), .agg (arr 10 fun k => .int .u16 (h k))] w fun e w' => e = .returned (.bool true) ∧ Below w.heap.size w w' := by
  have hM := Mem.nil w
  have tk_b1 : True := trivial; have tk_b2 : True := trivial
  go_enter Tryd.func77, Tryd.ntmps77
  go_wp2_with (first | (have _t := tk_b1; refine wpList_box rfl _ _ rfl _ _ rfl hM ?_; intro b1 W' hb1 hM'; clear hM tk_b1; have hM := hM'; clear hM') | (have _t := tk_b2; refine wpList_box rfl _ _ rfl _ _ rfl hM ?_; intro b2 W' hb2 hM'; clear hM tk_b2; have hM := hM'; clear hM'))
  go_loopw [5] (fun i wr => ∃ k : Nat, k ≤ 10 ∧ i = .int .i64 k ∧ Mem w [(b2, 10, fun k => .int .u16 (h k)), (b1, 10, fun k => .int .u16 (h k))] wr) (fun i _ => 10 - (intOf i).toNat)
  case atStart => exact ⟨0, by omega, rfl, hM⟩
  case round =>
    clear hM
    obtain ⟨k, hk, rfl, hM⟩ := hrel
    by_cases hlt : k < 10
    · go_wp2
      have lk : (k : Int) < 10 := by omega
      ((try simp only [Act.put, List.setIfInBounds_toArray, List.set_cons_succ, List.set_cons_zero]); refine wp_region_mem (by kernel_rfl) (by kernel_rfl) hM ?_; clear hM; (repeat (first | go_big_quiet_skip | (go_big_quiet_want; first | (refine quiet_get1 _ _ rfl _ _ rfl 1 rfl (cellTab _ rfl) (by omega) (.int .u16 (h k)) rfl ?_; (simp only [Act.put, List.setIfInBounds_toArray, List.set_cons_succ, List.set_cons_zero]); go_big_quiet_on) | (refine quiet_get1 _ _ rfl _ _ rfl 0 rfl (cellTab _ rfl) (by omega) (.int .u16 (h k)) rfl ?_; (simp only [Act.put, List.setIfInBounds_toArray, List.set_cons_succ, List.set_cons_zero]); go_big_quiet_on) | (refine quiet_val ?_; apply Exists.intro; refine ⟨fun W => ?_, ?_⟩; (go_simp; (try simp only [lk, if_true, Bool.false_eq_true, if_false]); rfl); (simp only [Act.put, List.setIfInBounds_toArray, List.set_cons_succ, List.set_cons_zero]); go_big_quiet_on)))); (with_reducible refine wpQuiet_nil ?_); intro W' hM)
      go_wp2
      go_roundw
      case rel => exact ⟨k + 1, by omega, by go_num, hM⟩
      case measure => simp [intOf]; omega
    · obtain rfl : k = 10 := by omega
      go_wp2
      go_ret
      exact ⟨rfl, hM.below⟩
set_option maxHeartbeats 400000 in
theorem eqInt16A10A10_same (h : Nat → Int) (w : World) :
    Calls Tryd.prog 76 #[.agg (arr 100 fun k => .int .i16 (h k)), .agg (arr 100 fun k => .int .i16 (h k))] w fun e w' => e = .returned (.bool true) ∧ Below w.heap.size w w' := by
  have hM := Mem.nil w
  have tk_b1 : True := trivial; have tk_b2 : True := trivial
  go_enter Tryd.func76, Tryd.ntmps76
  go_wp2_with (first | (have _t := tk_b1; refine wpList_box rfl _ _ rfl _ _ rfl hM ?_; intro b1 W' hb1 hM'; clear hM tk_b1; have hM := hM'; clear hM') | (have _t := tk_b2; refine wpList_box rfl _ _ rfl _ _ rfl hM ?_; intro b2 W' hb2 hM'; clear hM tk_b2; have hM := hM'; clear hM'))
  go_loopw [5] (fun i wr => ∃ k : Nat, k ≤ 10 ∧ i = .int .i64 k ∧ Mem w [(b2, 100, fun k => .int .i16 (h k)), (b1, 100, fun k => .int .i16 (h k))] wr) (fun i _ => 10 - (intOf i).toNat)
  case atStart => exact ⟨0, by omega, rfl, hM⟩
  case round =>
    clear hM
    obtain ⟨k, hk, rfl, hM⟩ := hrel
    by_cases hlt : k < 10
    · go_wp2
      have lk : (k : Int) < 10 := by omega
      ((try simp only [Act.put, List.setIfInBounds_toArray, List.set_cons_succ, List.set_cons_zero]); refine wp_region_mem (by kernel_rfl) (by kernel_rfl) hM ?_; clear hM; (repeat (first | go_big_quiet_skip | (go_big_quiet_want; first | (refine quiet_get _ _ rfl _ _ rfl 1 rfl (rowTab _ _ rfl) (by omega) ?_; (simp only [Act.put, List.setIfInBounds_toArray, List.set_cons_succ, List.set_cons_zero]); go_big_quiet_on) | (refine quiet_get _ _ rfl _ _ rfl 0 rfl (rowTab _ _ rfl) (by omega) ?_; (simp only [Act.put, List.setIfInBounds_toArray, List.set_cons_succ, List.set_cons_zero]); go_big_quiet_on) | (refine quiet_call ?_; apply Exists.intro; apply Exists.intro; apply Exists.intro; refine ⟨fun W => ?_, fun W hM => ?_, ?_⟩; (go_simp; exact ⟨rfl, rfl⟩); (exact eqInt16A10_same (fun j => h (k * 10 + j)) W); (simp only [Act.put, List.setIfInBounds_toArray, List.set_cons_succ, List.set_cons_zero]); go_big_quiet_on) | (refine quiet_val ?_; apply Exists.intro; refine ⟨fun W => ?_, ?_⟩; (go_simp; (try simp only [lk, if_true, Bool.false_eq_true, if_false]); rfl); (simp only [Act.put, List.setIfInBounds_toArray, List.set_cons_succ, List.set_cons_zero]); go_big_quiet_on)))); (with_reducible refine wpQuiet_nil ?_); intro W' hM)
      go_wp2
      go_roundw
      case rel => exact ⟨k + 1, by omega, by go_num, hM⟩
      case measure => simp [intOf]; omega
    · obtain rfl : k = 10 := by omega
      go_wp2
      go_ret
      exact ⟨rfl, hM.below⟩

theorem eqGrass_same (g : Nat → Int) (w : World) :
    Calls Tryd.prog 76 #[.agg (arr 100 fun k => pas g (2 + k)), .agg (arr 100 fun k => pas g (2 + k))] w fun e w' => e = .returned (.bool true) ∧ Below w.heap.size w w' := by
  rw [arr_congr (f := fun k => pas g (2 + k)) (g := fun k => .int .i16 (g (2 + k))) (fun k hk => pas_i16 g (by omega) (by omega))]
  exact eqInt16A10A10_same _ w
theorem eqBits_same (g : Nat → Int) (o : Nat) (ho : 102 ≤ o) (w : World) :
    Calls Tryd.prog 77 #[.agg (arr 10 fun k => pas g (o + k)), .agg (arr 10 fun k => pas g (o + k))] w fun e w' => e = .returned (.bool true) ∧ Below w.heap.size w w' := by
  rw [arr_congr (f := fun k => pas g (o + k)) (g := fun k => .int .u16 (g (o + k))) (fun k hk => pas_u16 g (by omega))]
  exact eqUint16A10_same _ w

set_option maxRecDepth 100000 in
set_option maxHeartbeats 400000 in
theorem eqPasture_same (g : Nat → Int) (w : World) :
    Calls Tryd.prog 37 #[.agg (arr 122 (pas g)), .agg (arr 122 (pas g))] w fun e w' => e = .returned (.bool true) ∧ Below w.heap.size w w' := by
  have hM := Mem.nil w
  have e0 : pas g 0 = .int .i8 (g 0) := rfl
  have e1 : pas g 1 = .int .i8 (g 1) := rfl
  have tk_b1 : True := trivial; have tk_b2 : True := trivial
  go_enter Tryd.func37, Tryd.ntmps37
  go_wp2_with (first | (have _t := tk_b1; refine wpList_box rfl _ _ rfl _ _ rfl hM ?_; intro b1 W' hb1 hM'; clear hM tk_b1; have hM := hM'; clear hM') | (have _t := tk_b2; refine wpList_box rfl _ _ rfl _ _ rfl hM ?_; intro b2 W' hb2 hM'; clear hM tk_b2; have hM := hM'; clear hM') | (refine wpList_get1 rfl _ _ rfl _ _ rfl hM 1 rfl (cellTab _ rfl) (by omega) _ rfl ?_) | (refine wpList_get1 rfl _ _ rfl _ _ rfl hM 0 rfl (cellTab _ rfl) (by omega) _ rfl ?_) | (refine wpList_get rfl _ _ rfl _ _ rfl hM 1 rfl (rowTab _ _ rfl) (by omega) ?_) | (refine wpList_get rfl _ _ rfl _ _ rfl hM 0 rfl (rowTab _ _ rfl) (by omega) ?_) | (go_at_call 76; refine (eqGrass_same g _).mono ?_; rintro e W' ⟨rfl, hb'⟩; have hM' := hM.call hb'; clear hM hb'; have hM := hM'; clear hM') | (go_at_call 77; refine (eqBits_same g _ (by omega) _).mono ?_; rintro e W' ⟨rfl, hb'⟩; have hM' := hM.call hb'; clear hM hb'; have hM := hM'; clear hM'))
  go_ret
  exact ⟨rfl, hM.below⟩
end Go.Proofs.YtjfmhnbbdkejeaaDoor

