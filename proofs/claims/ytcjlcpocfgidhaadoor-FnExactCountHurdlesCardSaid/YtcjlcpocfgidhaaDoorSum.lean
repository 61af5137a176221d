/-
  Sums of grass: spec.l01Sum and (impl.Pasture).sumGrass by contracts.
-/
import Derived.Test.YtcjlcpocfgidhaaDoorRange
import Derived.Test.YtcjlcpocfgidhaaDoorAsked
namespace Go.Proofs.YtcjlcpocfgidhaaDoor
open Go Go.RowKit Go.Shelf Go.BigFrame

/-- f 0 + f 1 + .. , n of them. -/
def sumN : Nat → (Nat → Int) → Int
  | 0, _ => 0
  | n + 1, f => sumN n f + f n
theorem sumN_congr {n : Nat} {f g : Nat → Int} (h : ∀ k, k < n → f k = g k) : sumN n f = sumN n g := by
  induction n with
  | zero => rfl
  | succ n ih => rw [sumN, sumN, ih (fun k hk => h k (by omega)), h n (by omega)]
theorem sumN_add (a b : Nat) (f : Nat → Int) : sumN (a + b) f = sumN a f + sumN b (fun k => f (a + k)) := by
  induction b with
  | zero => simp [sumN]
  | succ b ih => rw [← Nat.add_assoc, sumN, ih, sumN]; omega
theorem sumN_mul (h w : Nat) (f : Nat → Int) : sumN (h * w) f = sumN h (fun y => sumN w (fun x => f (y * w + x))) := by
  induction h with
  | zero => simp [sumN]
  | succ h ih => rw [Nat.add_mul, Nat.one_mul, sumN_add, ih, sumN]
theorem sumN_none {a b : Nat} {f : Nat → Int} (hab : a ≤ b) (h : ∀ k, a ≤ k → k < b → f k = 0) : sumN b f = sumN a f := by
  obtain ⟨d, rfl⟩ := Nat.exists_eq_add_of_le hab
  rw [sumN_add]
  have : ∀ d, (∀ k, k < d → f (a + k) = 0) → sumN d (fun k => f (a + k)) = 0 := fun d => by
    induction d with
    | zero => intro _; rfl
    | succ d ih => intro hz; rw [sumN, ih (fun k hk => hz k (by omega)), hz d (by omega)]; rfl
  rw [this d (fun k hk => h (a + k) (by omega) (by omega))]
  omega
theorem sumN_bounds {n : Nat} {f : Nat → Int} {m : Int} (hm : 0 ≤ m) (h : ∀ k, k < n → 0 ≤ f k ∧ f k ≤ m) : 0 ≤ sumN n f ∧ sumN n f ≤ m * n := by
  induction n with
  | zero => simp [sumN]
  | succ n ih =>
    have i := ih (fun k hk => h k (by omega))
    have j := h n (by omega)
    rw [sumN, show ((n + 1 : Nat) : Int) = (n : Int) + 1 by omega, Int.mul_add, Int.mul_one]
    omega

theorem ok_grass {g : Nat → Int} (ho : okB g = true) : ∀ k, k < 100 → (0 ≤ g (2 + k) ∧ g (2 + k) ≤ 1000) ∧ (g (2 + k) ≠ 0 → isB g ((k % 10 : Nat) : Int) ((k / 10 : Nat) : Int) = true) := fun k hk => by
  unfold okB at ho
  rw [Bool.and_eq_true, List.all_eq_true] at ho
  have hr := ho.2 (k / 10) (List.mem_range.2 (by omega))
  unfold rowOk at hr
  rw [Bool.and_eq_true, Bool.and_eq_true, List.all_eq_true] at hr
  have hc := hr.1.1 (k % 10) (List.mem_range.2 (by omega))
  unfold cellOk at hc
  have e : 2 + k / 10 * 10 + k % 10 = 2 + k := by omega
  rw [e, Bool.and_eq_true] at hc
  refine ⟨inB_true hc.1, fun hne => ?_⟩
  have h1 := inB_true hc.1
  have h2 := hc.2
  rw [Bool.or_eq_true] at h2
  rcases h2 with h2 | h2
  · have := of_decide_eq_true h2; omega
  · exact h2

/-- The grass of some cells. -/
def sumL (g : Nat → Int) (l : List (Nat × Nat)) : Int := (l.map fun s => g (2 + s.2 * 10 + s.1)).sum
theorem sumL_snoc (g : Nat → Int) (l : List (Nat × Nat)) (u v : Nat) : sumL g (l ++ [(u, v)]) = sumL g l + g (2 + v * 10 + u) := by simp [sumL]
theorem sumL_bounds {g : Nat → Int} (hb : ∀ k, k < 100 → 0 ≤ g (2 + k) ∧ g (2 + k) ≤ 1000) (l : List (Nat × Nat)) (hl : ∀ s ∈ l, s.1 < 10 ∧ s.2 < 10) : 0 ≤ sumL g l ∧ sumL g l ≤ 1000 * l.length := by
  induction l with
  | nil => simp [sumL]
  | cons s l ih =>
    have i := ih (fun t ht => hl t (List.mem_cons_of_mem _ ht))
    have j := hl s List.mem_cons_self
    have k := hb (s.2 * 10 + s.1) (by omega)
    rw [← Nat.add_assoc] at k
    have e : sumL g (s :: l) = g (2 + s.2 * 10 + s.1) + sumL g l := by simp [sumL]
    rw [e, List.length_cons]
    omega
theorem sumL_all {g : Nat → Int} (ho : okB g = true) (W H : Nat) (hg0 : g 0 = W) (hg1 : g 1 = H) (hW : 1 ≤ W ∧ W ≤ 10) (hH : H ≤ 10) : sumL g (upto W (W * H)) = sumN 100 (fun k => g (2 + k)) := by
  have e1 : ∀ n : Nat, ∀ f : Nat → Int, ((List.range n).map f).sum = sumN n f := fun n f => by
    induction n with
    | zero => rfl
    | succ n ih => simp [List.range_succ, sumN, ih]
  have z := ok_grass ho
  have hz : ∀ x y : Nat, x < 10 → y < 10 → (W ≤ x ∨ H ≤ y) → g (2 + (y * 10 + x)) = 0 := fun x y hx hy h => by
    have := (z (y * 10 + x) (by omega)).2
    by_cases hne : g (2 + (y * 10 + x)) = 0
    · exact hne
    · have hi := this hne
      rw [show (y * 10 + x) % 10 = x by omega, show (y * 10 + x) / 10 = y by omega] at hi
      have hb := isB_bounds ho hi
      omega
  unfold sumL upto
  rw [List.map_map, e1, Nat.mul_comm W H, sumN_mul, show (100 : Nat) = 10 * 10 from rfl, sumN_mul]
  rw [sumN_none (a := H) (b := 10) hH (fun y h1 h2 => by
    rw [sumN_none (a := 0) (b := 10) (by omega) (fun x _ hx => hz x y hx h2 (.inr h1))]; rfl)]
  refine sumN_congr fun y hy => ?_
  rw [sumN_none (a := W) (b := 10) hW.2 (fun x h1 h2 => hz x y h2 (by omega) (.inl h1))]
  refine sumN_congr fun x hx => ?_
  simp only [Function.comp_apply, cellAt_row hx]
  congr 1; omega

set_option maxRecDepth 100000 in
set_option maxHeartbeats 1000000 in
theorem l01Sum_any (g : Nat → Int) (hg : Fits g) (hb : ∀ k, k < 100 → 0 ≤ g (2 + k) ∧ g (2 + k) ≤ 1000) (bp : Nat) (w : World) (hA : At w bp 122 (pas g)) :
    Calls Tryd.prog 74 #[.pointer (some ⟨bp, 0, none⟩)] w fun e w' => e = .returned (.int .i64 (sumN 100 (fun k => g (2 + k)))) ∧ Below w.heap.size w w' := by
  have hM : Mem w [(bp, 122, pas g)] w := (Mem.nil w).old hA (fun i p h => by simp at h)
  have Hb := Lib.hid hb
  clear hA hb
  go_enter Tryd.func74, Tryd.ntmps74
  go_wp2
  go_loopw [3, 4] (fun s y wr => ∃ k : Nat, k ≤ 10 ∧ y = .int .i64 k ∧ s = .int .i64 (sumN (k * 10) (fun k => g (2 + k))) ∧ Mem w [(bp, 122, pas g)] wr) (fun _ y _ => 10 - (intOf y).toNat)
  case atStart => exact ⟨0, by omega, rfl, rfl, hM⟩
  case round =>
    clear hM
    obtain ⟨k, hk, rfl, rfl, hM⟩ := hrel
    by_cases hlt : k < 10
    · have hkd : decide ((k : Int) < 10) = true := decide_eq_true (by omega)
      go_wp2
      go_loopw [3, 5] (fun s x wr => ∃ j : Nat, j ≤ 10 ∧ x = .int .i64 j ∧ s = .int .i64 (sumN (k * 10 + j) (fun k => g (2 + k))) ∧ Mem w [(bp, 122, pas g)] wr) (fun _ x _ => 10 - (intOf x).toNat)
      case atStart => exact ⟨0, by omega, rfl, rfl, hM⟩
      case round =>
        clear hM
        obtain ⟨j, hj, rfl, rfl, hM⟩ := hrel
        by_cases hjl : j < 10
        · have lj : (j : Int) < 10 := by omega
          have lk : (k : Int) < 10 := by omega
          have hs := sumN_bounds (n := k * 10 + j) (f := fun k => g (2 + k)) (m := 1000) (by omega) (fun i hi => Hb.out i (by omega))
          have hr := Hb.out (k * 10 + j) (by omega)
          have e0 : pas g (2 + k * 10 + j) = .int .i16 (g (2 + (k * 10 + j))) := by rw [pas_i16 g (by omega) (by omega), Nat.add_assoc]
          have c0 : IntKind.i64.wrap (g (2 + (k * 10 + j))) = g (2 + (k * 10 + j)) := IntWalk.i64_in _ (by omega)
          have c1 : IntKind.i64.wrap (sumN (k * 10 + j) (fun k => g (2 + k)) + g (2 + (k * 10 + j))) = sumN (k * 10 + j) (fun k => g (2 + k)) + g (2 + (k * 10 + j)) := IntWalk.i64_in _ (by omega)
          clear hs hr
          go_wp2_with (refine wpList_get1 rfl _ _ rfl _ _ rfl hM 0 rfl (cellTab _ rfl) (by omega) _ e0 ?_)
          go_roundw
          case rel => exact ⟨j + 1, by omega, by go_num, rfl, hM⟩
          case measure => simp [intOf]; omega
        · obtain rfl : j = 10 := by omega
          go_wp2
          go_roundw
          case rel => exact ⟨k + 1, by omega, by go_num, by rw [Nat.add_mul, Nat.one_mul], hM⟩
          case measure => simp [intOf]; omega
    · obtain rfl : k = 10 := by omega
      go_wp2
      go_ret
      exact ⟨rfl, hM.below⟩

theorem sum_start (g : Nat → Int) (k : Nat) (hk : k < 1) : upd (fun _ => Value.int .i64 0) 0 (.int .i64 0) k = .int .i64 (sumL g []) := by
  obtain rfl : k = 0 := by omega
  rfl

set_option maxRecDepth 100000 in
set_option maxHeartbeats 2000000 in
/-- sumGrass over an iterator of cells, told by its contract; what it holds lies in one block. -/
theorem sumGrass_seq {α : Type} (g : Nat → Int) (hg : Fits g) (hb : ∀ k, k < 100 → 0 ≤ g (2 + k) ∧ g (2 + k) ≤ 1000) (cell : α → Nat × Nat) (hc : ∀ x, (cell x).1 < 10 ∧ (cell x).2 < 10)
    {gf : Nat} {lb : Array Value} {S Sp : List α → Prop} {N : Nat} (bi ni : Nat) (fi : Nat → Value) (eg : ∀ args w, (callFunc gf args).run Tryd.prog w = .ok (.enter gf args) w) (hN : N ≤ 2 ^ 40) (T : Int) (hS : ∀ xs, S xs → sumL g (xs.map cell) = T)
    (w : World) (hA : At w bi ni fi)
    (hseq : ∀ W1, At W1 bi ni fi → SeqStopsK Fence.wide 2 Tryd.prog gf lb (fun x => #[.agg (arr 2 (sp ((cell x).1 : Int) ((cell x).2 : Int)))]) (fun A B => At A bi ni fi → At B bi ni fi) S Sp N W1) :
    Calls Tryd.prog 75 #[.agg (arr 122 (pas g)), .func (.func gf) #[] lb] w fun e w' => e = .returned (.int .i64 T) ∧ Below w.heap.size w w' := by
  have hM : Mem w [(bi, ni, fi)] w := (Mem.nil w).old hA (fun i p h => by simp at h)
  have Hb := Lib.hid hb
  have Hc := Lib.hid hc
  have HS := Lib.hid hS
  have Hq := Lib.hid hseq
  have HN := Lib.hid hN
  clear hA hb hc hS hseq hN
  refine (callsIn_wide (n := 3)).1 ?_
  refine callsIn_of_wp_marks Tryd.func75 rfl trivial ?_ rfl
  simp only [Tryd.ntmps75, List.size_toArray, List.length_cons, List.length_nil, Nat.reduceAdd, Nat.reduceSub, Array.replicate_succ, Array.replicate_zero, List.push_toArray, List.append_toArray, List.nil_append, List.cons_append]
  refine wpIn_wide.2 ?_
  have tk_b1 : True := trivial; have tk_b2 : True := trivial
  go_wp2_with (first | (have _t := tk_b1; refine wpList_box rfl _ _ rfl _ _ rfl hM ?_; intro b1 W' hb1 hM'; clear hM tk_b1; have hM := hM'; clear hM') | (have _t := tk_b2; refine wpList_zero1 rfl _ rfl (zero1Tab _ _ rfl) rfl hM ?_; intro b2 W' hb2 hM'; clear hM tk_b2; have hM := hM'; clear hM') | (refine wpList_set1 rfl _ _ _ rfl _ _ rfl _ rfl ?_ hM 0 rfl (by assumption) (cellTab _ rfl) (by omega) ?_; (first | rfl | exact h1 _); intro W' hM'; clear hM; have hM := hM'; clear hM'; simp [List.set, Act.eval] at hM))
  have hM1 := hM.re 0 rfl (fun _ => .int .i64 (sumL g [])) (fun k hk => sum_start g k hk)
  simp only [List.set_cons_zero] at hM1
  clear hM
  refine (wpIn_wide (n := 3)).1 ?_
  refine range_spots (α := α) (px := fun c => ((cell c).1 : Int)) (py := fun c => ((cell c).2 : Int)) (ks := [b2, b1, bi]) (gf := gf) (lb := lb)
    (fun pre => [(b2, 1, fun _ => .int .i64 (sumL g (pre.map cell))), (b1, 122, pas g), (bi, ni, fi)])
    rfl eg (Hq.out _ (hM1.ats 2 _ _ _ rfl)) (fun {A B C} h k x => k (h x)) (fun X l o o' h ho hA => hA.grown (grownBy_putObj' X l o') (fun r e => by cases e; exact ⟨o, h, ho⟩))
    (fun _ => rfl) (fun _ _ _ _ _ _ _ h2 _ => h2.ats 3 _ _ _ rfl) rfl rfl rfl rfl rfl rfl (by decide) (by simp) (by simp) hM1 ?body ?done
  case body =>
    intro l pre x bx X hbx hM hlen
    clear hM1
    dsimp only at hM ⊢
    generalize hxu : cell x = s at *
    obtain ⟨u, v⟩ := s
    have hcx := Hc.out x
    rw [hxu] at hcx
    dsimp only at hcx hM ⊢
    have hr := Hb.out (v * 10 + u) (by omega)
    have hs := sumL_bounds Hb.out (pre.map cell) (fun s hs => by obtain ⟨c, _, rfl⟩ := List.mem_map.1 hs; exact Hc.out c)
    have hl : (pre.map cell).length ≤ 2 ^ 40 := by have := HN.out; simp only [List.length_map]; omega
    rw [← Nat.add_assoc] at hr
    have c1 : IntKind.i64.wrap (sumL g (pre.map cell) + g (2 + v * 10 + u)) = sumL g (pre.map cell) + g (2 + v * 10 + u) := IntWalk.i64_in _ (by omega)
    have Hx := Lib.hid hxu
    clear hr hs hl hlen hxu
    refine wpIn_block ?_
    ((try simp only [Act.put, List.setIfInBounds_toArray, List.set_cons_succ, List.set_cons_zero]); refine region_round_head (m := 5) (fun ⟨_, _, h⟩ => h) rfl (by kernel_rfl) (by kernel_rfl) hM ?_; clear hM; simp only [List.take_succ_cons, List.take_zero, List.drop_succ_cons, List.drop_zero]; (repeat (first | go_big_quiet_skip | (go_big_quiet_want; first | (refine quiet_get _ _ rfl _ _ rfl 2 rfl (rowTab _ _ rfl) (by omega) ?_; (simp only [Act.put, List.setIfInBounds_toArray, List.set_cons_succ, List.set_cons_zero]); go_big_quiet_on) | (refine quiet_get _ _ rfl _ _ rfl 0 rfl (rowTab _ _ rfl) (by omega) ?_; (simp only [Act.put, List.setIfInBounds_toArray, List.set_cons_succ, List.set_cons_zero]); go_big_quiet_on) | (refine quiet_get1 _ _ rfl _ _ rfl 1 rfl (cellTab _ rfl) (by omega) (.int .i64 (sumL g (pre.map cell))) rfl ?_; (simp only [Act.put, List.setIfInBounds_toArray, List.set_cons_succ, List.set_cons_zero]); go_big_quiet_on) | (refine quiet_call ?_; apply Exists.intro; apply Exists.intro; apply Exists.intro; refine ⟨fun W => ?_, fun W hM => ?_, ?_⟩; (go_simp; exact ⟨rfl, rfl⟩); (exact grassAt_any g hg u v hcx.1 hcx.2 W); (simp only [Act.put, List.setIfInBounds_toArray, List.set_cons_succ, List.set_cons_zero]); go_big_quiet_on) | (refine quiet_val ?_; apply Exists.intro; refine ⟨fun W => ?_, ?_⟩; (go_simp; (try simp only [c1, if_true, Bool.false_eq_true, if_false]); rfl); (simp only [Act.put, List.setIfInBounds_toArray, List.set_cons_succ, List.set_cons_zero]); go_big_quiet_on)))); (with_reducible refine wpQuiet_nil ?_); intro W' hM)
    go_wp2_with (first | (refine wpList_set1 rfl _ _ _ rfl _ _ rfl _ rfl ?_ hM 1 rfl (by assumption) (cellTab _ rfl) (by omega) ?_; (first | rfl | exact h1 _); intro W' hM'; clear hM; have hM := hM'; clear hM'; simp [List.set, Act.eval] at hM))
    show Mem _ _ _
    have hM2 := hM.re 1 rfl (fun _ => .int .i64 (sumL g ((pre ++ [x]).map cell))) (fun k hk => by
      obtain rfl : k = 0 := by omega
      rw [List.map_append, List.map_singleton, Hx.out, sumL_snoc]; rfl)
    exact hM2
  case done =>
    rename_i K7 hK7
    intro D xs X hD hS hM hK
    have hsz : w.heap.size ≤ W'.heap.size := hM1.size
    rw [HS.out xs hS] at hM
    have hM' : Mem (Base.round w W'.heap.size X) _ X := hM.base ⟨hM.below, KeepsFrom.refl _ _⟩
    clear hM hM1
    have hM := hM'
    clear hM'
    show K7 _ _
    refine hK7 _ _ ?_
    dsimp only
    go_wp2_with (first | (refine wpList_get1 rfl _ _ rfl _ _ rfl hM 0 rfl (cellTab _ rfl) (by omega) _ rfl ?_))
    have hK' := hM.good.2.same D _ hD hK rfl
    exact leave_marks hK' (.int .i64 T) (by rw [results_tmp rfl]; rfl) ⟨rfl, below_mark hM.good.1 (Nat.le_trans hsz hD)⟩
end Go.Proofs.YtcjlcpocfgidhaaDoor
