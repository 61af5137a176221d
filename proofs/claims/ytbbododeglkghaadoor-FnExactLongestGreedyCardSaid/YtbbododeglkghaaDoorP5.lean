/-
  Several texts in one: GivesR, Num, Rests, SearchM, Season, Richest.
-/
import Derived.Test.YtbbododeglkghaaDoorP4
import Derived.Test.YtbbododeglkghaaDoorP1
import Derived.Test.YtbbododeglkghaaDoorP3
/-
  PLAIN: what a call gives that returns a list and a code (or a list, a number and a code): no element, or the first cells of a new block; a block brought to the front.
-/
namespace Go.Proofs.YtbbododeglkghaaDoor
open Go Go.RowKit

/-- The list v: n elements of m cells, R, in a new block; or none. -/
def NewL (m n : Nat) (R : Nat → Value) (w : World) (v : Value) (w' : World) : Prop :=
  (n = 0 ∧ (∃ a c, v = .slice a 0 c) ∧ Below w.heap.size w w') ∨ ∃ b c N F, v = .slice (some ⟨b, 0, none⟩) n c ∧ w.heap.size ≤ b ∧ n * m ≤ N ∧ (∀ j, j < n * m → F j = R j) ∧ At w' b N F ∧ Below w.heap.size w w'
def GivesR (m n : Nat) (R : Nat → Value) (cc : Int) (w : World) (e : Ending) (w' : World) : Prop := ∃ v, e = .returned (.tuple #[v, .int .i64 cc]) ∧ NewL m n R w v w'
def GivesR2 (m n : Nat) (R : Nat → Value) (x cc : Int) (w : World) (e : Ending) (w' : World) : Prop := ∃ v, e = .returned (.tuple #[v, .int .i64 x, .int .i64 cc]) ∧ NewL m n R w v w'
theorem NewL.zero {m n : Nat} {R : Nat → Value} {w : World} {v : Value} {w' : World} (h : NewL m n R w v w') (hn : n = 0) : ∃ a c, v = .slice a 0 c ∧ Below w.heap.size w w' := by
  rcases h with ⟨-, ⟨a, c, h⟩, hb⟩ | ⟨b, c, N, F, h, -, -, -, -, hb⟩
  · exact ⟨a, c, h, hb⟩
  · exact ⟨_, c, by rw [h, hn], hb⟩
theorem NewL.some {m n : Nat} {R : Nat → Value} {w : World} {v : Value} {w' : World} (h : NewL m n R w v w') (hn : 0 < n) : ∃ b c N F, v = .slice (some ⟨b, 0, none⟩) n c ∧ w.heap.size ≤ b ∧ n * m ≤ N ∧ (∀ j, j < n * m → F j = R j) ∧ At w' b N F ∧ Below w.heap.size w w' := by
  rcases h with ⟨h, -⟩ | h
  · omega
  · exact h
theorem GivesR.to {m n n' : Nat} {R R' : Nat → Value} {c c' : Int} {w : World} {e : Ending} {w' : World} (h : GivesR m n R c w e w') (hn : n = n') (hR : R = R') (hc : c = c') : GivesR m n' R' c' w e w' := by rw [← hn, ← hR, ← hc]; exact h
/-- No list. -/
theorem GivesR.none {m : Nat} {R : Nat → Value} {n : Nat} {cc cc' : Int} {w w' : World} {a : Option Addr} {c : Nat} (hb : Below w.heap.size w w') (hn : n = 0) (hc : cc' = cc) : GivesR m n R cc w (.returned (.tuple #[.slice a 0 c, .int .i64 cc'])) w' := ⟨_, by rw [hc], .inl ⟨hn, ⟨a, c, rfl⟩, hb⟩⟩
/-- The i-th block is brought to the front. -/
theorem Mem.toFront {w : Base} {W : World} {L : Blocks} (h : Mem w L W) (i : Nat) {p : Nat × Nat × (Nat → Value)} (hi : L[i]? = some p) : Mem w (p :: L.eraseIdx i) W := by
  have key : ∀ j q, (L.eraseIdx i)[j]? = some q → L[if j < i then j else j + 1]? = some q := fun j q hq => by
    rw [List.getElem?_eraseIdx] at hq
    split at hq <;> rename_i hji
    · rw [if_pos hji]; exact hq
    · rw [if_neg hji]; exact hq
  refine ⟨h.good, fun j b n f hj => ?_, fun j k x y hj hk hne => ?_⟩
  · match j, hj with
    | 0, hj => simp at hj; subst hj; exact h.ats i _ _ _ hi
    | j + 1, hj => exact h.ats _ b n f (key j _ (by simpa using hj))
  · match j, k, hj, hk with
    | 0, 0, _, _ => exact absurd rfl hne
    | 0, k + 1, hj, hk =>
      simp at hj; subst hj
      exact h.apart i _ _ y hi (key k _ (by simpa using hk)) (by split <;> omega)
    | j + 1, 0, hj, hk =>
      simp at hk; subst hk
      exact h.apart _ i x _ (key j _ (by simpa using hj)) hi (by split <;> omega)
    | j + 1, k + 1, hj, hk => exact h.apart _ _ x y (key j _ (by simpa using hj)) (key k _ (by simpa using hk)) (by split <;> split <;> omega)
end Go.Proofs.YtbbododeglkghaaDoor

/-
  A number and a code, as results.
-/
namespace Go.Proofs.YtbbododeglkghaaDoor
open Go Go.RowKit

/-- A number and a code. -/
def numR (n c : Int) : Value := .tuple #[.int .i64 n, .int .i64 c]
theorem numR_eq (n c : Int) : numR n c = .tuple #[.int .i64 n, .int .i64 c] := rfl
theorem ret_num {n n' c c' : Int} (h : n = n') (h' : c = c') : Ending.returned (.tuple #[.int .i64 n, .int .i64 c]) = .returned (numR n' c') := by rw [h, h', numR_eq]
end Go.Proofs.YtbbododeglkghaaDoor

/-
  spec.RestsOf and impl.RestsOf by contracts.
-/
namespace Go.Proofs.YtbbododeglkghaaDoor
open Go Go.RowKit Go.BigFrame

/-- The last of the first i days in the m-th meadow, -1 if there is none; the rests. -/
def lastR (ys : Nat → Int) (m : Int) : Nat → Int
  | 0 => -1
  | i + 1 => if ys i = m then i else lastR ys m i
def restR (ys : Nat → Int) (m : Int) : Nat → List Int
  | 0 => []
  | i + 1 => if ys i = m ∧ 0 ≤ lastR ys m i then restR ys m i ++ [i - lastR ys m i - 1] else restR ys m i
theorem lastR_in (ys : Nat → Int) (m : Int) : ∀ i, -1 ≤ lastR ys m i ∧ lastR ys m i < i
  | 0 => by simp [lastR]
  | i + 1 => by
    have := lastR_in ys m i
    simp only [lastR]
    split <;> omega
theorem restR_len (ys : Nat → Int) (m : Int) : ∀ i, (restR ys m i).length ≤ i
  | 0 => by simp [restR]
  | i + 1 => by
    have := restR_len ys m i
    simp only [restR]
    split
    · rw [List.length_append, List.length_singleton]; omega
    · omega
/-- A list of numbers as cells. -/
def numsF (l : List Int) : Nat → Int := fun j => l.getD j 0
def vI (l : List Int) : Nat → Value := vInt64S (numsF l)
theorem vI_old (l : List Int) (x : Int) {j : Nat} (h : j < l.length * 1) : vI l j = vI (l ++ [x]) j := by
  simp only [vI, vInt64S, numsF, List.getD_eq_getElem?_getD]
  rw [List.getElem?_append_left (by omega)]
theorem vI_new (l : List Int) (x : Int) {j : Nat} (h : j < 1) : (fun _ => Value.int .i64 x) j = vI (l ++ [x]) (l.length * 1 + j) := by
  obtain rfl : j = 0 := by omega
  simp [vI, vInt64S, numsF, List.getD_eq_getElem?_getD]
theorem i64_one {x : Int} : ∀ k, k < 1 → ((fun _ => Value.int .i64 x) k).oneCell' = true := fun _ _ => rfl
theorem int64s_underR : Tryd.prog.underlying 31 = some (.slice 2) := Tryd.underlying31
theorem int64_infoR : (Tryd.prog.info? 2).map (fun i => (i.size, i.zero)) = some (1, some (.int .i64 0)) := by kernel_rfl
theorem int64_info0 : (Tryd.prog.info? 2).map (fun i => i.size) = some 1 := by kernel_rfl
def restB (p : Nat) (ys : Nat → Int) (m : Int) : Bool := planB 6 p ys && inB 0 5 m
def restL (p : Nat) (ys : Nat → Int) (m : Int) : List Int := if restB p ys m then restR ys m p else []
def restC (p : Nat) (ys : Nat → Int) (m : Int) : Int := if restB p ys m then 0 else 2
/-- What comes of it. -/
def GivesI64 (l : List Int) (cc : Int) (w : World) (e : Ending) (w' : World) : Prop := GivesR 1 l.length (vI l) cc w e w'
theorem Lst.newL {w : World} {m n : Nat} {v : Value} {R : Nat → Value} {W : World} (h : Lst w [] m v n R W) : NewL m n R w v W := by
  rcases h with ⟨h1, h2, h⟩ | ⟨b, c, F, h1, h2, h3, h4, h⟩
  · exact .inl ⟨h2, ⟨none, 0, h1⟩, h.below⟩
  · exact .inr ⟨b, c, _, F, h1, h2, Nat.mul_le_mul_right _ h3, h4, h.at0, h.below⟩
theorem rest_no {p : Nat} {ys : Nat → Int} {m : Int} (h : restB p ys m = false) : restL p ys m = [] ∧ restC p ys m = 2 := by simp [restL, restC, h]
theorem rest_yes {p : Nat} {ys : Nat → Int} {m : Int} (h : restB p ys m = true) : restL p ys m = restR ys m p ∧ restC p ys m = 0 := by simp [restL, restC, h]
theorem givesI_none {p : Nat} {ys : Nat → Int} {m : Int} (h : restB p ys m = false) {w W : World} (hb : Below w.heap.size w W) {a : Option Addr} {c : Nat} : GivesI64 (restL p ys m) (restC p ys m) w (.returned (.tuple #[.slice a 0 c, .int .i64 2])) W := by
  rw [(rest_no h).1, (rest_no h).2]
  exact ⟨_, rfl, .inl ⟨rfl, ⟨a, c, rfl⟩, hb⟩⟩
theorem givesI_some {p : Nat} {ys : Nat → Int} {m : Int} (h : restB p ys m = true) {w W : World} {v : Value} (hL : Lst w [] 1 v (restR ys m p).length (vI (restR ys m p)) W) : GivesI64 (restL p ys m) (restC p ys m) w (.returned (.tuple #[v, .int .i64 0])) W := by
  rw [(rest_yes h).1, (rest_yes h).2]
  exact ⟨v, rfl, hL.newL⟩

set_option maxRecDepth 100000 in
set_option maxHeartbeats 8000000 in
theorem specRestsOf_l (bp p cp : Nat) (ys : Nat → Int) (hp : p ≤ 1048576) (m : Int) (w : World) (hP : At w bp p (vInt64S ys)) :
    Calls Tryd.prog 31 #[.slice (some ⟨bp, 0, none⟩) p cp, .int .i64 m] w (GivesI64 (restL p ys m) (restC p ys m) w) := by
  have hM : Mem w [(bp, p, vInt64S ys)] w := (Mem.nil w).old hP (fun i p h => by simp at h)
  clear hP
  have six : ((6 : Nat) : Int) - 1 = 5 := by decide
  by_cases h1 : p ≤ 30 ∧ inB 0 5 m = true
  case neg =>
    have hb : restB p ys m = false := by
      unfold restB planB
      by_cases h2 : p ≤ 30
      · have : inB 0 5 m = false := by
          cases h3 : inB 0 5 m
          · rfl
          · exact absurd ⟨h2, h3⟩ h1
        rw [this, Bool.and_false]
      · rw [decide_eq_false h2]; rfl
    have Hb := Lib.hid hb
    rcases (show ¬ p ≤ 30 ∨ (p ≤ 30 ∧ inB 0 5 m = false) by
      by_cases h2 : p ≤ 30
      · refine .inr ⟨h2, ?_⟩
        cases h3 : inB 0 5 m
        · rfl
        · exact absurd ⟨h2, h3⟩ h1
      · exact .inl h2) with h2 | ⟨h2, h3⟩
    all_goals
      first | have d1 : decide ((p : Int) ≤ 30) = false := decide_eq_false (by omega)
            | have d1 : decide ((p : Int) ≤ 30) = true := decide_eq_true (by omega)
      first | have H3 := Lib.hid h3
            | skip
      clear h1 hb
      try clear h3
      have tk_s1 : True := trivial
      go_enter Tryd.func31, Tryd.ntmps31
      go_wp2_with (first | (go_at_call 55; (with_reducible refine (l00In_any m 0 5 _).mono ?_); rintro e W' ⟨rfl, hb'⟩; rw [H3.out]; have hM' := hM.call hb'; clear hM hb'; have hM := hM'; clear hM'))
      go_loopw [6, 7] (fun f i wr => ∃ k : Nat, k ≤ p ∧ f = .bool false ∧ i = .int .i64 k ∧ Mem w [(bp, p, vInt64S ys)] wr) (fun _ i _ => p - (intOf i).toNat)
      case atStart => exact ⟨0, by omega, rfl, rfl, hM⟩
      case round =>
        clear hM
        obtain ⟨k, hk, rfl, rfl, hM⟩ := hrel
        by_cases hlt : k < p
        · have l2 : (k : Int) < p := by omega
          go_wp2
          go_roundw
          case rel => exact ⟨k + 1, by omega, rfl, by go_num, hM⟩
          case measure => simp [intOf]; omega
        · obtain rfl : k = p := by omega
          go_wp2_with (first | (have _t := tk_s1; refine wpList_slice0 rfl _ _ rfl _ int64s_underR int64_info0 hM ?_; intro s1 W' hs1 hM'; clear hM tk_s1; have hM := hM'; clear hM'))
          go_ret2
          exact givesI_none Hb.out hM.below
  have d1 : decide ((p : Int) ≤ 30) = true := decide_eq_true (by omega)
  have hp30 := h1.1
  have H3 := Lib.hid h1.2
  clear h1
  go_enter Tryd.func31, Tryd.ntmps31
  go_wp2_with (first | (go_at_call 55; (with_reducible refine (l00In_any m 0 5 _).mono ?_); rintro e W' ⟨rfl, hb'⟩; rw [H3.out]; have hM' := hM.call hb'; clear hM hb'; have hM := hM'; clear hM'))
  go_loopw [6, 7] (fun f i wr => ∃ k : Nat, k ≤ p ∧ f = .bool (planTo 6 ys k) ∧ i = .int .i64 k ∧ Mem w [(bp, p, vInt64S ys)] wr) (fun _ i _ => p - (intOf i).toNat)
  case atStart => exact ⟨0, by omega, rfl, rfl, hM⟩
  case round =>
    clear hM
    obtain ⟨k, hk, rfl, rfl, hM⟩ := hrel
    by_cases hlt : k < p
    · have l2 : (k : Int) < p := by omega
      have ek : vInt64S ys k = .int .i64 (ys k) := rfl
      have hs := planTo_succ 6 ys k
      rw [six] at hs
      have Hs := Lib.hid hs
      clear hs
      cases hf : planTo 6 ys k
      · have Hn : Hid (planTo 6 ys (k + 1) = false) := Lib.hid (by rw [Hs.out, hf]; rfl)
        go_wp2
        go_roundw
        case rel => exact ⟨k + 1, by omega, congrArg Value.bool Hn.out.symm, by go_num, hM⟩
        case measure => simp [intOf]; omega
      · cases hi : inB 0 5 (ys k)
        all_goals
          have Hi := Lib.hid hi
          have Hn : Hid (planTo 6 ys (k + 1) = inB 0 5 (ys k)) := Lib.hid (by rw [Hs.out, hf]; rfl)
          clear hi
          go_wp2_with (first | (refine wpList_gget1 ?_ _ _ rfl _ _ rfl hM 0 rfl (cellTab _ rfl) (by omega) _ ek ?_; kernel_rfl) | (go_at_call 55; (with_reducible refine (l00In_any (ys k) 0 5 _).mono ?_); rintro e W' ⟨rfl, hb'⟩; rw [Hi.out]; have hM' := hM.call hb'; clear hM hb'; have hM := hM'; clear hM'))
          go_roundw
          case rel => exact ⟨k + 1, by omega, congrArg Value.bool (by rw [Hn.out, Hi.out]), by go_num, hM⟩
          case measure => simp [intOf]; omega
    · obtain rfl : k = p := by omega
      have hr : restB k ys m = planTo 6 ys k := by unfold restB planB; rw [H3.out, decide_eq_true hp30, Bool.and_true, Bool.true_and]
      cases hf : planTo 6 ys k
      · have Hr := Lib.hid (hr.trans hf)
        clear hr
        have tk_s1 : True := trivial
        go_wp2_with (first | (have _t := tk_s1; refine wpList_slice0 rfl _ _ rfl _ int64s_underR int64_info0 hM ?_; intro s1 W' hs1 hM'; clear hM tk_s1; have hM := hM'; clear hM'))
        go_ret2
        exact givesI_none Hr.out hM.below
      have Hr := Lib.hid (hr.trans hf)
      clear hr hf
      have tk_s1 : True := trivial
      go_wp2_with (first | (have _t := tk_s1; refine wpList_slice0 rfl _ _ rfl _ int64s_underR int64_info0 hM ?_; intro s1 W' hs1 hM'; clear hM tk_s1; have hM := hM'; clear hM'))
      go_loopw [8, 9, 10] (fun v l i wr => ∃ q : Nat, q ≤ k ∧ l = .int .i64 (lastR ys m q) ∧ i = .int .i64 q ∧ Lst w [(bp, k, vInt64S ys)] 1 v (restR ys m q).length (vI (restR ys m q)) wr) (fun _ _ i _ => k - (intOf i).toNat)
      case atStart => exact ⟨0, by omega, rfl, rfl, .inr ⟨s1, 0, fun _ => undef, rfl, hs1, Nat.le_refl _, fun j hj => absurd hj (by simp [restR]), hM⟩⟩
      case round =>
        clear hM hk hlt hp six
        obtain ⟨q, hq, rfl, rfl, hL⟩ := hrel
        by_cases hlt : q < k
        · have l2 : (q : Int) < k := by omega
          have hli := lastR_in ys m q
          have hll := restR_len ys m q
          have eqc : wr.cell? ⟨bp, q, none⟩ = some (.int .i64 (ys q)) := (hL.mem.ats 0 _ _ _ rfl).cell (by omega)
          by_cases hm : ys q = m
          · have hb0 : (ys q != m) = false := by simp [hm]
            have Hla : Hid (lastR ys m (q + 1) = q) := Lib.hid (by simp [lastR, hm])
            by_cases h0 : 0 ≤ lastR ys m q
            · have Hre : Hid (restR ys m (q + 1) = restR ys m q ++ [(q : Int) - lastR ys m q - 1]) := Lib.hid (by simp only [restR]; rw [if_pos ⟨hm, h0⟩])
              have d0 : decide (0 ≤ lastR ys m q) = true := decide_eq_true h0
              have n1 : IntKind.i64.wrap ((q : Int) - lastR ys m q) = (q : Int) - lastR ys m q := IntWalk.i64_in _ (by omega)
              have n2 : IntKind.i64.wrap ((q : Int) - lastR ys m q - 1) = (q : Int) - lastR ys m q - 1 := IntWalk.i64_in _ (by omega)
              have hn : (restR ys m q).length ≤ 1048576 := by omega
              clear hm h0 hli hll
              generalize lastR ys m q = la at *
              generalize hx : (q : Int) - la - 1 = x at *
              generalize restR ys m q = rl at *
              have Hnew := Lib.hid (fun j (hj : j < 1) => vI_new rl x hj)
              rcases hL with ⟨rfl, hn0, hM⟩ | ⟨b, c, F, rfl, hbb, hnc, hF, hM⟩
              · have Hq : Hid (∀ j, j < 1 → (fun _ => Value.int .i64 x) j = vI (rl ++ [x]) j) := Lib.hid (fun j hj => by have := Hnew.out j hj; rwa [hn0, Nat.zero_mul, Nat.zero_add] at this)
                have tk_l1 : True := trivial; have tk_p1 : True := trivial
                go_wp2_with (first | (have _t := tk_l1; refine wpList_lit1 rfl _ _ _ rfl (.int .i64 x) (by first | rfl | exact congrArg (Value.int .i64) hx) rfl _ int64s_underR int64_infoR hM ?_; intro l1 W' hl1 hM'; clear hM tk_l1; have hM := hM'; clear hM') | (have _t := tk_p1; refine wpList_push0 rfl _ _ _ rfl _ 1 _ _ int64s_underR infoInt64S rfl (by omega) rfl _ _ rfl hM (vI (rl ++ [x])) Hq.out ?_; intro bL cL FL W' hbL hcL hFL hM'; clear hM tk_p1; have hM := hM'; clear hM'))
                go_roundw
                case rel => exact ⟨q + 1, by omega, by rw [Hla.out], by go_num, by
                  rw [Hre.out, List.length_append, hn0]
                  exact .inr ⟨bL, cL, FL, rfl, hbL, hcL, hFL, hM⟩⟩
                case measure => simp [intOf]; omega
              · have Hf : Hid (∀ j, j < rl.length * 1 → F j = vI (rl ++ [x]) j) := Lib.hid (fun j hj => by rw [hF j hj]; exact vI_old rl x hj)
                clear hF
                have tk_l1 : True := trivial; have tk_p1 : True := trivial
                go_wp2_with (first | (have _t := tk_l1; refine wpList_lit1 rfl _ _ _ rfl (.int .i64 x) (by first | rfl | exact congrArg (Value.int .i64) hx) rfl _ int64s_underR int64_infoR hM ?_; intro l1 W' hl1 hM'; clear hM tk_l1; have hM := hM'; clear hM') | (have _t := tk_p1; refine wpList_push1 rfl _ _ _ rfl _ 1 _ _ int64s_underR infoInt64S rfl (by omega) _ _ _ _ rfl hbb hnc hn _ _ rfl i64_one hM (vI (rl ++ [x])) Hf.out Hnew.out ?_; intro bL cL FL W' hbL hcL hFL hM'; clear hM tk_p1; have hM := hM'; clear hM'))
                go_roundw
                case rel => exact ⟨q + 1, by omega, by rw [Hla.out], by go_num, by
                  rw [Hre.out, List.length_append]
                  exact .inr ⟨bL, cL, FL, rfl, hbL, hcL, hFL, hM⟩⟩
                case measure => simp [intOf]; omega
            · have Hre : Hid (restR ys m (q + 1) = restR ys m q) := Lib.hid (by simp only [restR]; rw [if_neg (fun h => h0 h.2)])
              have d0 : decide (0 ≤ lastR ys m q) = false := decide_eq_false h0
              clear hm
              go_wp2
              go_roundw
              case rel => exact ⟨q + 1, by omega, by rw [Hla.out], by go_num, by rw [Hre.out]; exact hL⟩
              case measure => simp [intOf]; omega
          · have hb0 : (ys q != m) = true := by simp [hm]
            have Hla : Hid (lastR ys m (q + 1) = lastR ys m q) := Lib.hid (by simp [lastR, hm])
            have Hre : Hid (restR ys m (q + 1) = restR ys m q) := Lib.hid (by simp only [restR]; rw [if_neg (fun h => hm h.1)])
            go_wp2
            go_roundw
            case rel => exact ⟨q + 1, by omega, by rw [Hla.out], by go_num, by rw [Hre.out]; exact hL⟩
            case measure => simp [intOf]; omega
        · obtain rfl : q = k := by omega
          go_wp2
          go_ret2
          exact givesI_some Hr.out hL.only
end Go.Proofs.YtbbododeglkghaaDoor

/-
  The search for a plan, as a function; everyMeadow by contract.
-/
namespace Go.Proofs.YtbbododeglkghaaDoor
open Go Go.RowKit Go.BigFrame

/-- What comes of a search: the plan if there is one, the tries, whether the budget has ended. -/
abbrev Fnd := Option (List Nat) × Nat × Bool
def tryL (need : Int) (B : Nat) (f : (Nat → Nat → Int) → Nat → Fnd) (hs : Nat → Nat → Int) : List Nat → Nat → Fnd
  | [], t => (none, t, false)
  | m :: ms, t =>
    if hs m 0 < need then tryL need B f hs ms t
    else if t = B then (none, t, true)
    else match f (dayM hs need m) (t + 1) with
      | (some p, t', _) => (some (m :: p), t', false)
      | (none, t', true) => (none, t', true)
      | (none, t', false) => tryL need B f hs ms t'
def goS (need : Int) (B : Nat) (off : (Nat → Nat → Int) → List Nat) : Nat → (Nat → Nat → Int) → Nat → Fnd
  | 0, _, t => (some [], t, false)
  | d + 1, hs, t => tryL need B (goS need B off d) hs (off hs) t
theorem tryL_le {need : Int} {B : Nat} {f : (Nat → Nat → Int) → Nat → Fnd} (hf : ∀ hs t, t ≤ B → (f hs t).2.1 ≤ B) (hs : Nat → Nat → Int) : ∀ ms t, t ≤ B → (tryL need B f hs ms t).2.1 ≤ B
  | [], t, h => h
  | m :: ms, t, h => by
    simp only [tryL]
    split
    · exact tryL_le hf hs ms t h
    · split
      · exact h
      · rename_i h1 h2
        have hq := hf (dayM hs need m) (t + 1) (by omega)
        cases hfr : f (dayM hs need m) (t + 1) with
        | mk o r =>
          obtain ⟨t', b⟩ := r
          rw [hfr] at hq
          cases o with
          | some p => exact hq
          | none => cases b
                    · exact tryL_le hf hs ms t' hq
                    · exact hq
theorem goS_le (need : Int) (B : Nat) (off : (Nat → Nat → Int) → List Nat) : ∀ d hs t, t ≤ B → (goS need B off d hs t).2.1 ≤ B
  | 0, _, _, h => h
  | d + 1, hs, t, h => tryL_le (goS_le need B off d) hs _ t h
theorem tryL_len {need : Int} {B d : Nat} {f : (Nat → Nat → Int) → Nat → Fnd} (hf : ∀ hs t p, (f hs t).1 = some p → p.length = d) (hs : Nat → Nat → Int) : ∀ ms t p, (tryL need B f hs ms t).1 = some p → p.length = d + 1
  | [], t, p, h => by simp [tryL] at h
  | m :: ms, t, p, h => by
    simp only [tryL] at h
    split at h
    · exact tryL_len hf hs ms t p h
    · split at h
      · simp at h
      · cases hfr : f (dayM hs need m) (t + 1) with
        | mk o r =>
          obtain ⟨t', b⟩ := r
          rw [hfr] at h
          cases o with
          | some q =>
            simp only [Option.some.injEq] at h
            subst h
            rw [List.length_cons, hf (dayM hs need m) (t + 1) q (by rw [hfr])]
          | none => cases b
                    · exact tryL_len hf hs ms t' p h
                    · simp at h
theorem goS_len (need : Int) (B : Nat) (off : (Nat → Nat → Int) → List Nat) : ∀ d hs t p, (goS need B off d hs t).1 = some p → p.length = d
  | 0, _, _, p, h => by simp [goS] at h; simp [← h]
  | d + 1, hs, t, p, h => tryL_len (goS_len need B off d) hs _ t p h
theorem goS_over (need : Int) (B : Nat) (off : (Nat → Nat → Int) → List Nat) (d : Nat) (hs : Nat → Nat → Int) (t : Nat) (p : List Nat) (h : (goS need B off d hs t).1 = some p) : (goS need B off d hs t).2.2 = false := by
  cases d with
  | zero => rfl
  | succ d =>
    simp only [goS] at h ⊢
    revert h
    generalize off hs = ms
    induction ms generalizing t with
    | nil => intro h; simp [tryL] at h
    | cons m ms ih =>
      intro h
      simp only [tryL] at h ⊢
      split at h
      · rename_i h1; rw [if_pos h1]; exact ih _ h
      · rename_i h1
        rw [if_neg h1]
        split at h
        · simp at h
        · rename_i h2
          rw [if_neg h2]
          cases hfr : goS need B off d (dayM hs need m) (t + 1) with
          | mk o r =>
            obtain ⟨t', b⟩ := r
            rw [hfr] at h
            cases o with
            | some q => rfl
            | none => cases b
                      · exact ih _ h
                      · simp at h
theorem tryL_poor {need : Int} {B : Nat} {f : (Nat → Nat → Int) → Nat → Fnd} {hs : Nat → Nat → Int} {m : Nat} {ms : List Nat} {t : Nat} (h : hs m 0 < need) : tryL need B f hs (m :: ms) t = tryL need B f hs ms t := by simp [tryL, h]
theorem tryL_spent {need : Int} {B : Nat} {f : (Nat → Nat → Int) → Nat → Fnd} {hs : Nat → Nat → Int} {m : Nat} {ms : List Nat} {t : Nat} (h : ¬ hs m 0 < need) (h2 : t = B) : tryL need B f hs (m :: ms) t = (none, t, true) := by simp [tryL, h, h2]
theorem tryL_some {need : Int} {B : Nat} {f : (Nat → Nat → Int) → Nat → Fnd} {hs : Nat → Nat → Int} {m : Nat} {ms : List Nat} {t : Nat} (h : ¬ hs m 0 < need) (h2 : ¬ t = B) {p : List Nat} {t' : Nat} {b : Bool} (hf : f (dayM hs need m) (t + 1) = (some p, t', b)) : tryL need B f hs (m :: ms) t = (some (m :: p), t', false) := by simp [tryL, h, h2, hf]
theorem tryL_over {need : Int} {B : Nat} {f : (Nat → Nat → Int) → Nat → Fnd} {hs : Nat → Nat → Int} {m : Nat} {ms : List Nat} {t : Nat} (h : ¬ hs m 0 < need) (h2 : ¬ t = B) {t' : Nat} (hf : f (dayM hs need m) (t + 1) = (none, t', true)) : tryL need B f hs (m :: ms) t = (none, t', true) := by simp [tryL, h, h2, hf]
theorem tryL_next {need : Int} {B : Nat} {f : (Nat → Nat → Int) → Nat → Fnd} {hs : Nat → Nat → Int} {m : Nat} {ms : List Nat} {t : Nat} (h : ¬ hs m 0 < need) (h2 : ¬ t = B) {t' : Nat} (hf : f (dayM hs need m) (t + 1) = (none, t', false)) : tryL need B f hs (m :: ms) t = tryL need B f hs ms t' := by simp [tryL, h, h2, hf]

/-- A list of indices as numbers. -/
def natI (l : List Nat) : List Int := l.map fun (k : Nat) => (k : Int)
theorem natI_len (l : List Nat) : (natI l).length = l.length := by simp [natI]
theorem natI_at {l : List Nat} {i : Nat} (h : i < l.length) : vI (natI l) i = .int .i64 (l[i] : Nat) := by
  simp [vI, vInt64S, numsF, natI, List.getD_eq_getElem?_getD, h]
theorem natI_snoc (l : List Nat) (m : Nat) : natI (l ++ [m]) = natI l ++ [(m : Int)] := by simp [natI]
theorem natI_cons (m : Nat) (l : List Nat) : natI (m :: l) = (m : Int) :: natI l := by simp [natI]
theorem vI_cons0 (x : Int) (l : List Int) : vI (x :: l) 0 = .int .i64 x := by simp [vI, vInt64S, numsF]
theorem vI_consS (x : Int) (l : List Int) (j : Nat) : vI (x :: l) (j + 1) = vI l j := by simp [vI, vInt64S, numsF, List.getD_eq_getElem?_getD]

theorem Lst.someQ {w : World} {m n : Nat} {v : Value} {R : Nat → Value} {W : World} (h : Lst w [] m v n R W) (hn : 0 < n) : ∃ b c F, v = .slice (some ⟨b, 0, none⟩) n c ∧ w.heap.size ≤ b ∧ n ≤ c ∧ (∀ j, j < n * m → F j = R j) ∧ At W b (c * m) F ∧ Below w.heap.size w W := by
  rcases h with ⟨-, h, -⟩ | ⟨b, c, F, h1, h2, h3, h4, h5⟩
  · omega
  · exact ⟨b, c, F, h1, h2, h3, h4, h5.at0, h5.below⟩
/-- A new list of numbers. -/
def GivesV (l : List Nat) (w : World) (e : Ending) (w' : World) : Prop := ∃ v, e = .returned v ∧ Lst w [] 1 v l.length (vI (natI l)) w'

set_option maxRecDepth 100000 in
set_option maxHeartbeats 1000000 in
theorem everyMeadow_any (n c : Nat) (a : Option Addr) (hn : n ≤ 6) (w : World) :
    Calls Tryd.prog 66 #[.slice a n c] w (GivesV (List.range n) w) := by
  have hM := Mem.nil w
  go_enter Tryd.func66, Tryd.ntmps66
  go_wp2
  go_loopw [3, 7] (fun v i wr => ∃ k : Nat, k ≤ n ∧ i = .int .i64 k ∧ Lst w [] 1 v (natI (List.range k)).length (vI (natI (List.range k))) wr) (fun _ i _ => n - (intOf i).toNat)
  case atStart => exact ⟨0, by omega, rfl, .inl ⟨rfl, rfl, hM⟩⟩
  case round =>
    clear hM
    obtain ⟨k, hk, rfl, hL⟩ := hrel
    by_cases hlt : k < n
    · have l2 : (k : Int) < n := by omega
      have hr : natI (List.range (k + 1)) = natI (List.range k) ++ [(k : Int)] := by rw [List.range_succ, natI_snoc]
      have hlen : (natI (List.range k)).length = k := by rw [natI_len, List.length_range]
      have Hr := Lib.hid hr
      have hn' : (natI (List.range k)).length ≤ 1048576 := by omega
      clear hr hlen
      generalize natI (List.range k) = rl at *
      have Hnew := Lib.hid (fun j (hj : j < 1) => vI_new rl (k : Int) hj)
      rcases hL with ⟨rfl, hn0, hM⟩ | ⟨b, c, F, rfl, hbb, hnc, hF, hM⟩
      · have Hq : Hid (∀ j, j < 1 → (fun _ => Value.int .i64 (k : Int)) j = vI (rl ++ [(k : Int)]) j) := Lib.hid (fun j hj => by have := Hnew.out j hj; rwa [hn0, Nat.zero_mul, Nat.zero_add] at this)
        have tk_l1 : True := trivial; have tk_p1 : True := trivial
        go_wp2_with (first | (have _t := tk_l1; refine wpList_lit1 rfl _ _ _ rfl (.int .i64 (k : Int)) rfl rfl _ int64s_underR int64_infoR hM ?_; intro l1 W' hl1 hM'; clear hM tk_l1; have hM := hM'; clear hM') | (have _t := tk_p1; refine wpList_push0 rfl _ _ _ rfl _ 1 _ _ int64s_underR infoInt64S rfl (by omega) rfl _ _ rfl hM (vI (rl ++ [(k : Int)])) Hq.out ?_; intro bL cL FL W' hbL hcL hFL hM'; clear hM tk_p1; have hM := hM'; clear hM'))
        go_roundw
        case rel => exact ⟨k + 1, by omega, by go_num, by
          rw [Hr.out, List.length_append, hn0]
          exact .inr ⟨bL, cL, FL, rfl, hbL, hcL, hFL, hM⟩⟩
        case measure => simp [intOf]; omega
      · have Hf : Hid (∀ j, j < rl.length * 1 → F j = vI (rl ++ [(k : Int)]) j) := Lib.hid (fun j hj => by rw [hF j hj]; exact vI_old rl (k : Int) hj)
        clear hF
        have tk_l1 : True := trivial; have tk_p1 : True := trivial
        go_wp2_with (first | (have _t := tk_l1; refine wpList_lit1 rfl _ _ _ rfl (.int .i64 (k : Int)) rfl rfl _ int64s_underR int64_infoR hM ?_; intro l1 W' hl1 hM'; clear hM tk_l1; have hM := hM'; clear hM') | (have _t := tk_p1; refine wpList_push1 rfl _ _ _ rfl _ 1 _ _ int64s_underR infoInt64S rfl (by omega) _ _ _ _ rfl hbb hnc hn' _ _ rfl i64_one hM (vI (rl ++ [(k : Int)])) Hf.out Hnew.out ?_; intro bL cL FL W' hbL hcL hFL hM'; clear hM tk_p1; have hM := hM'; clear hM'))
        go_roundw
        case rel => exact ⟨k + 1, by omega, by go_num, by
          rw [Hr.out, List.length_append]
          exact .inr ⟨bL, cL, FL, rfl, hbL, hcL, hFL, hM⟩⟩
        case measure => simp [intOf]; omega
    · obtain rfl : k = n := by omega
      go_wp2
      go_ret
      exact ⟨_, rfl, by rw [natI_len] at hL; exact hL⟩
end Go.Proofs.YtbbododeglkghaaDoor

/-
  impl.seasonOf by contract.
-/
namespace Go.Proofs.YtbbododeglkghaaDoor
open Go Go.RowKit Go.BigFrame

/-- The day of a herd that needs so much, as a value. -/
def liveV (need : Int) : Value := .func (.func 73) #[.int .i64 need] #[]
@[go_sem] theorem liveV_eq (need : Int) : liveV need = .func (.func 73) #[.int .i64 need] #[] := rfl

set_option maxRecDepth 100000 in
set_option maxHeartbeats 1000000 in
theorem seasonOf_0 {a : Nat → Addr} (b N n c : Nat) (F : Nat → Value) (hs : Nat → Nat → Int) (hN : n * 3 ≤ N) (hf : ∀ j, j < n * 3 → F j = sMeadow hs j) (hF : ∀ i, i < n → FitsMeadow (hs i)) (hn : n ≤ 1048576) (need : Int) (w : World) (hB : At w b N F) (hE : Errs a w) (hm : meadsB n hs = false) :
    Calls Tryd.prog 53 #[.slice (some ⟨b, 0, none⟩) n c, .int .i64 need] w fun e w' => e = .returned (.tuple #[.nilFunc, errV (a 0)]) ∧ Below w.heap.size w w' := by
  have hM : Mem w [(b, N, F)] w := (Mem.nil w).old hB (fun i p h => by simp at h)
  have HF := Lib.hid hF
  have Hf := Lib.hid hf
  have HE := Lib.hid hE
  have Hm := Lib.hid hm
  clear hF hB hE hf hm
  go_enter Tryd.func53, Tryd.ntmps53
  go_wp2_with (first | (go_at_call 67; refine (implValidMeadows_any b N n c F hs hN Hf.out HF.out hn _ (hM.ats 0 _ _ _ rfl) (HE.out.below hM.below)).mono ?_; rintro e W' ⟨rfl, hb'⟩; rw [Hm.out]; have hM' := hM.call hb'; have hE' := HE.out.below hM'.below; have v0 : W'.cell? ⟨0, 0, none⟩ = some (errV (a 0)) := hE'.vars 0 (by omega); clear hM hb' hE'; have hM := hM'; clear hM'))
  ((try simp only [Act.put, List.setIfInBounds_toArray, List.set_cons_succ, List.set_cons_zero]); refine wp_region_mem (by kernel_rfl) (by kernel_rfl) hM ?_; clear hM; (repeat (first | go_big_quiet_skip | (go_big_quiet_want; first | (refine quiet_old _ _ rfl _ _ rfl (cellTab _ rfl) (errV (a 0)) (fun W hM => (HE.out.below hM.below).vars 0 (by omega)) ?_; (simp only [Act.put, List.setIfInBounds_toArray, List.set_cons_succ, List.set_cons_zero]); go_big_quiet_on) | (refine quiet_val ?_; apply Exists.intro; refine ⟨fun W => ?_, ?_⟩; (go_simp; rfl); (simp only [Act.put, List.setIfInBounds_toArray, List.set_cons_succ, List.set_cons_zero]); go_big_quiet_on)))); (with_reducible refine wpQuiet_nil ?_); intro W' hM)
  go_wp2
  go_ret2
  exact ⟨rfl, hM.below⟩

set_option maxRecDepth 100000 in
set_option maxHeartbeats 1000000 in
theorem seasonOf_1 {a : Nat → Addr} (b N n c : Nat) (F : Nat → Value) (hs : Nat → Nat → Int) (hN : n * 3 ≤ N) (hf : ∀ j, j < n * 3 → F j = sMeadow hs j) (hF : ∀ i, i < n → FitsMeadow (hs i)) (hn : n ≤ 1048576) (need : Int) (w : World) (hB : At w b N F) (hE : Errs a w) (hm : meadsB n hs = true) (hd : inB 1 1000 need = false) :
    Calls Tryd.prog 53 #[.slice (some ⟨b, 0, none⟩) n c, .int .i64 need] w fun e w' => e = .returned (.tuple #[.nilFunc, errV (a 1)]) ∧ Below w.heap.size w w' := by
  have hM : Mem w [(b, N, F)] w := (Mem.nil w).old hB (fun i p h => by simp at h)
  have HF := Lib.hid hF
  have Hf := Lib.hid hf
  have HE := Lib.hid hE
  have Hm := Lib.hid hm
  have h' : ¬ (1 ≤ need ∧ need ≤ 1000) := of_decide_eq_false hd
  clear hF hB hE hf hm hd
  by_cases h1 : need < 1
  · have d0 : decide (need < 1) = true := decide_eq_true h1
    clear h'
    go_enter Tryd.func53, Tryd.ntmps53
    go_wp2_with (first | (go_at_call 67; (with_reducible refine (implValidMeadows_any b N n c F hs hN Hf.out HF.out hn _ (hM.ats 0 _ _ _ rfl) (HE.out.below hM.below)).mono ?_); rintro e W' ⟨rfl, hb'⟩; rw [Hm.out]; have hM' := hM.call hb'; clear hM hb'; have hM := hM'; clear hM'))
    ((try simp only [Act.put, List.setIfInBounds_toArray, List.set_cons_succ, List.set_cons_zero]); refine wp_region_mem (by kernel_rfl) (by kernel_rfl) hM ?_; clear hM; (repeat (first | go_big_quiet_skip | (go_big_quiet_want; first | (refine quiet_old _ _ rfl _ _ rfl (cellTab _ rfl) (errV (a 1)) (fun W hM => (HE.out.below hM.below).vars 1 (by omega)) ?_; (simp only [Act.put, List.setIfInBounds_toArray, List.set_cons_succ, List.set_cons_zero]); go_big_quiet_on) | (refine quiet_val ?_; apply Exists.intro; refine ⟨fun W => ?_, ?_⟩; (go_simp; rfl); (simp only [Act.put, List.setIfInBounds_toArray, List.set_cons_succ, List.set_cons_zero]); go_big_quiet_on)))); (with_reducible refine wpQuiet_nil ?_); intro W' hM)
    go_wp2
    go_ret2
    exact ⟨rfl, hM.below⟩
  · have d0 : decide (need < 1) = false := decide_eq_false h1
    have d1 : decide (1000 < need) = true := decide_eq_true (by omega)
    clear h'
    go_enter Tryd.func53, Tryd.ntmps53
    go_wp2_with (first | (go_at_call 67; (with_reducible refine (implValidMeadows_any b N n c F hs hN Hf.out HF.out hn _ (hM.ats 0 _ _ _ rfl) (HE.out.below hM.below)).mono ?_); rintro e W' ⟨rfl, hb'⟩; rw [Hm.out]; have hM' := hM.call hb'; clear hM hb'; have hM := hM'; clear hM'))
    ((try simp only [Act.put, List.setIfInBounds_toArray, List.set_cons_succ, List.set_cons_zero]); refine wp_region_mem (by kernel_rfl) (by kernel_rfl) hM ?_; clear hM; (repeat (first | go_big_quiet_skip | (go_big_quiet_want; first | (refine quiet_old _ _ rfl _ _ rfl (cellTab _ rfl) (errV (a 1)) (fun W hM => (HE.out.below hM.below).vars 1 (by omega)) ?_; (simp only [Act.put, List.setIfInBounds_toArray, List.set_cons_succ, List.set_cons_zero]); go_big_quiet_on) | (refine quiet_val ?_; apply Exists.intro; refine ⟨fun W => ?_, ?_⟩; (go_simp; rfl); (simp only [Act.put, List.setIfInBounds_toArray, List.set_cons_succ, List.set_cons_zero]); go_big_quiet_on)))); (with_reducible refine wpQuiet_nil ?_); intro W' hM)
    go_wp2
    go_ret2
    exact ⟨rfl, hM.below⟩

set_option maxRecDepth 100000 in
set_option maxHeartbeats 1000000 in
theorem seasonOf_ok {a : Nat → Addr} (b N n c : Nat) (F : Nat → Value) (hs : Nat → Nat → Int) (hN : n * 3 ≤ N) (hf : ∀ j, j < n * 3 → F j = sMeadow hs j) (hF : ∀ i, i < n → FitsMeadow (hs i)) (hn : n ≤ 1048576) (need : Int) (w : World) (hB : At w b N F) (hE : Errs a w) (hm : meadsB n hs = true) (hd : inB 1 1000 need = true) :
    Calls Tryd.prog 53 #[.slice (some ⟨b, 0, none⟩) n c, .int .i64 need] w fun e w' => e = .returned (.tuple #[liveV need, .nilIface]) ∧ Below w.heap.size w w' := by
  have hM : Mem w [(b, N, F)] w := (Mem.nil w).old hB (fun i p h => by simp at h)
  have HF := Lib.hid hF
  have Hf := Lib.hid hf
  have HE := Lib.hid hE
  have Hm := Lib.hid hm
  have h' := inB_true hd
  have d0 : decide (need < 1) = false := decide_eq_false (by omega)
  have d1 : decide (1000 < need) = false := decide_eq_false (by omega)
  clear hF hB hE hf hm hd h'
  go_enter Tryd.func53, Tryd.ntmps53
  go_wp2_with (first | (go_at_call 67; (with_reducible refine (implValidMeadows_any b N n c F hs hN Hf.out HF.out hn _ (hM.ats 0 _ _ _ rfl) (HE.out.below hM.below)).mono ?_); rintro e W' ⟨rfl, hb'⟩; rw [Hm.out]; have hM' := hM.call hb'; clear hM hb'; have hM := hM'; clear hM'))
  go_ret2
  exact ⟨rfl, hM.below⟩
end Go.Proofs.YtbbododeglkghaaDoor

/-
  spec.l07Richest and impl.richestMeadow by contracts: slices.Max and Index of int16, firstMost.
-/
namespace Go.Proofs.YtbbododeglkghaaDoor
open Go Go.RowKit Go.BigFrame

/-- The first place of the greatest of the numbers up to k. -/
def topK (h : Nat → Int) : Nat → Nat
  | 0 => 0
  | k + 1 => if h (topK h k) < h (k + 1) then k + 1 else topK h k
theorem topK_le (h : Nat → Int) : ∀ k, topK h k ≤ k
  | 0 => Nat.le_refl _
  | k + 1 => by
    have := topK_le h k
    simp only [topK]; split <;> omega
theorem topK_max (h : Nat → Int) : ∀ k j, j ≤ k → h j ≤ h (topK h k)
  | 0, j, hj => by obtain rfl : j = 0 := by omega
                   exact Int.le_refl _
  | k + 1, j, hj => by
    simp only [topK]
    by_cases e : j = k + 1
    · subst e; split <;> omega
    · have := topK_max h k j (by omega)
      split <;> omega
theorem topK_first (h : Nat → Int) : ∀ k j, j < topK h k → h j < h (topK h k)
  | 0, j, hj => by simp [topK] at hj
  | k + 1, j, hj => by
    simp only [topK] at hj ⊢
    split at hj
    · rename_i hlt
      rw [if_pos hlt]
      have := topK_max h k j (by omega)
      omega
    · rename_i hlt
      rw [if_neg hlt]
      exact topK_first h k j hj
theorem topK_yes {h : Nat → Int} {k : Nat} (e : h (topK h k) < h (k + 1)) : topK h (k + 1) = k + 1 := by simp [topK, e]
theorem topK_no {h : Nat → Int} {k : Nat} (e : ¬ h (topK h k) < h (k + 1)) : topK h (k + 1) = topK h k := by simp [topK, e]
/-- The meadow with the most grass. -/
def richK (hs : Nat → Nat → Int) (n : Nat) : Nat := topK (fun i => hs i 0) (n - 1)
theorem richK_lt (hs : Nat → Nat → Int) {n : Nat} (hn : 1 ≤ n) : richK hs n < n := by
  have := topK_le (fun i => hs i 0) (n - 1)
  unfold richK; omega
def v16 (h : Nat → Int) : Nat → Value := fun k => .int .i16 (h k)

set_option maxRecDepth 100000 in
set_option maxHeartbeats 2000000 in
theorem l07Richest_any (b N n c : Nat) (F : Nat → Value) (hs : Nat → Nat → Int) (hn : 1 ≤ n) (hn6 : n ≤ 6) (hN : n * 3 ≤ N) (hf : ∀ j, j < n * 3 → F j = sMeadow hs j) (w : World) (hA : At w b N F) :
    Calls Tryd.prog 74 #[.slice (some ⟨b, 0, none⟩) n c] w fun e w' => e = .returned (.int .i64 (richK hs n : Nat)) ∧ Below w.heap.size w w' := by
  have hM : Mem w [(b, N, F)] w := (Mem.nil w).old hA (fun i p h => by simp at h)
  obtain ⟨m, rfl⟩ : ∃ m, n = m + 1 := ⟨n - 1, by omega⟩
  have hr : richK hs (m + 1) = topK (fun i => hs i 0) m := rfl
  rw [hr]
  have hv : ∀ i, i < m + 1 → F (i * 3) = .int .i16 (hs i 0) := fun i hi => by rw [hf _ (by omega)]; exact sMeadow_row hs i 0 (by omega)
  have Hv := Lib.hid hv
  clear hA hf hr hv hn
  obtain ⟨h, hh⟩ : ∃ h : Nat → Int, h = fun i => hs i 0 := ⟨_, rfl⟩
  have Hh : Hid (∀ i, i < m + 1 → F (i * 3) = .int .i16 (h i)) := Lib.hid (by rw [hh]; exact Hv.out)
  rw [← hh]
  clear Hv hh
  go_enter Tryd.func74, Tryd.ntmps74
  go_wp2
  go_loopw [3, 4] (fun a i wr => ∃ k : Nat, k ≤ m ∧ a = .int .i64 (topK h k : Nat) ∧ i = .int .i64 ((k + 1 : Nat) : Int) ∧ Mem w [(b, N, F)] wr) (fun _ i _ => m + 1 - (intOf i).toNat)
  case atStart => exact ⟨0, by omega, rfl, rfl, hM⟩
  case round =>
    clear hM
    obtain ⟨k, hk, rfl, rfl, hM⟩ := hrel
    have hbk := topK_le h k
    by_cases hlt : k < m
    · have lk : ((k + 1 : Nat) : Int) < ((m + 1 : Nat) : Int) := by omega
      have lk' : ((k : Nat) : Int) + 1 < (m : Int) + 1 := by omega
      have l2 : ((topK h k : Nat) : Int) < ((m + 1 : Nat) : Int) := by omega
      have l2' : ((topK h k : Nat) : Int) < (m : Int) + 1 := by omega
      have e1 : F ((k + 1) * 3) = .int .i16 (h (k + 1)) := Hh.out _ (by omega)
      have e2 : F (topK h k * 3) = .int .i16 (h (topK h k)) := Hh.out _ (by omega)
      generalize hj : k + 1 = j at *
      go_wp2
      by_cases hc : h (topK h k) < h j
      · have Hs := Lib.hid (topK_yes (h := h) (k := k) (by rw [hj]; exact hc))
        have tk_r0 : True := trivial
        ((try simp only [Act.put, List.setIfInBounds_toArray, List.set_cons_succ, List.set_cons_zero]); refine wp_region_mem (by kernel_rfl) (by kernel_rfl) hM ?_; clear hM; (repeat (first | go_big_quiet_skip | (go_big_quiet_want; first | (have _t := tk_r0; (refine quiet_get1 _ _ rfl _ _ rfl 0 rfl (cellTab _ rfl) (by omega) _ (e1) ?_; (simp only [Act.put, List.setIfInBounds_toArray, List.set_cons_succ, List.set_cons_zero]); go_big_quiet_on); clear tk_r0) | (refine quiet_get1 _ _ rfl _ _ rfl 0 rfl (cellTab _ rfl) (by omega) _ (e2) ?_; (simp only [Act.put, List.setIfInBounds_toArray, List.set_cons_succ, List.set_cons_zero]); go_big_quiet_on) | (refine quiet_val ?_; apply Exists.intro; refine ⟨fun W => ?_, ?_⟩; (go_simp; (try simp only [lk, lk', l2, l2', hc, if_true, Bool.false_eq_true, if_false]); rfl); (simp only [Act.put, List.setIfInBounds_toArray, List.set_cons_succ, List.set_cons_zero]); go_big_quiet_on)))); (with_reducible refine wpQuiet_nil ?_); intro W' hM)
        go_wp2
        go_roundw
        case rel => exact ⟨k + 1, by omega, by rw [Hs.out, hj], by rw [hj]; go_num, hM⟩
        case measure => simp [intOf]; omega
      · have Hs := Lib.hid (topK_no (h := h) (k := k) (by rw [hj]; exact hc))
        have tk_r0 : True := trivial
        ((try simp only [Act.put, List.setIfInBounds_toArray, List.set_cons_succ, List.set_cons_zero]); refine wp_region_mem (by kernel_rfl) (by kernel_rfl) hM ?_; clear hM; (repeat (first | go_big_quiet_skip | (go_big_quiet_want; first | (have _t := tk_r0; (refine quiet_get1 _ _ rfl _ _ rfl 0 rfl (cellTab _ rfl) (by omega) _ (e1) ?_; (simp only [Act.put, List.setIfInBounds_toArray, List.set_cons_succ, List.set_cons_zero]); go_big_quiet_on); clear tk_r0) | (refine quiet_get1 _ _ rfl _ _ rfl 0 rfl (cellTab _ rfl) (by omega) _ (e2) ?_; (simp only [Act.put, List.setIfInBounds_toArray, List.set_cons_succ, List.set_cons_zero]); go_big_quiet_on) | (refine quiet_val ?_; apply Exists.intro; refine ⟨fun W => ?_, ?_⟩; (go_simp; (try simp only [lk, lk', l2, l2', hc, if_true, Bool.false_eq_true, if_false]); rfl); (simp only [Act.put, List.setIfInBounds_toArray, List.set_cons_succ, List.set_cons_zero]); go_big_quiet_on)))); (with_reducible refine wpQuiet_nil ?_); intro W' hM)
        go_wp2
        go_roundw
        case rel => exact ⟨k + 1, by omega, by rw [Hs.out], by rw [hj]; go_num, hM⟩
        case measure => simp [intOf]; omega
    · obtain rfl : k = m := by omega
      go_wp2
      go_ret
      exact ⟨rfl, hM.below⟩

theorem int16s_under : Tryd.prog.underlying 105 = some (.slice 54) := Tryd.underlying105
theorem int16_info : (Tryd.prog.info? 54).map (fun i => (i.size, i.zero)) = some (1, some (.int .i16 0)) := by kernel_rfl
theorem int16_infoB : (Tryd.prog.info? 54).map (fun i => (i.size, i.zero, i.bytes)) = some (1, some (.int .i16 0), 2) := by kernel_rfl
theorem i16_one {x : Int} : ∀ k, k < 1 → ((fun _ => Value.int .i16 x) k).oneCell' = true := fun _ _ => rfl

set_option maxRecDepth 100000 in
set_option maxHeartbeats 2000000 in
theorem maxI16_any (h : Nat → Int) (b N m c : Nat) (F : Nat → Value) (hm : m < 100) (hN : m + 1 ≤ N) (hv : ∀ i, i < m + 1 → F i = .int .i16 (h i)) (w : World) (hA : At w b N F) :
    Calls Tryd.prog 82 #[.slice (some ⟨b, 0, none⟩) (m + 1) c] w fun e w' => e = .returned (.int .i16 (h (topK h m))) ∧ Below w.heap.size w w' := by
  have hM : Mem w [(b, N, F)] w := (Mem.nil w).old hA (fun i p h => by simp at h)
  have e0 : F 0 = .int .i16 (h 0) := hv 0 (by omega)
  have Hv := Lib.hid hv
  have d1 : decide (((m + 1 : Nat) : Int) < 1) = false := decide_eq_false (by omega)
  have d1' : decide ((m : Int) + 1 < 1) = false := decide_eq_false (by omega)
  clear hA hv
  go_enter Tryd.func82, Tryd.ntmps82
  go_wp2_with (first | (refine wpList_get1 rfl _ _ rfl _ _ rfl hM 0 rfl (cellTab _ rfl) (by omega) _ e0 ?_))
  go_loopw [3, 4] (fun a i wr => ∃ k : Nat, k ≤ m ∧ a = .int .i16 (h (topK h k)) ∧ i = .int .i64 ((k + 1 : Nat) : Int) ∧ Mem w [(b, N, F)] wr) (fun _ i _ => m + 1 - (intOf i).toNat)
  case atStart => exact ⟨0, by omega, rfl, rfl, hM⟩
  case round =>
    clear hM e0 d1 d1'
    obtain ⟨k, hk, rfl, rfl, hM⟩ := hrel
    by_cases hlt : k < m
    · have lk : ((k + 1 : Nat) : Int) < ((m + 1 : Nat) : Int) := by omega
      have e1 : F (k + 1) = .int .i16 (h (k + 1)) := Hv.out _ (by omega)
      generalize hj : k + 1 = j at *
      by_cases hc : h (topK h k) < h j
      · have Hs := Lib.hid (topK_yes (h := h) (k := k) (by rw [hj]; exact hc))
        go_wp2_with (first | (refine wpList_get1 rfl _ _ rfl _ _ rfl hM 0 rfl (cellTab _ rfl) (by omega) _ e1 ?_))
        go_roundw
        case rel => exact ⟨k + 1, by omega, by rw [Hs.out, hj], by rw [hj]; go_num, hM⟩
        case measure => simp [intOf]; omega
      · have Hs := Lib.hid (topK_no (h := h) (k := k) (by rw [hj]; exact hc))
        go_wp2_with (first | (refine wpList_get1 rfl _ _ rfl _ _ rfl hM 0 rfl (cellTab _ rfl) (by omega) _ e1 ?_))
        go_roundw
        case rel => exact ⟨k + 1, by omega, by rw [Hs.out], by rw [hj]; go_num, hM⟩
        case measure => simp [intOf]; omega
    · obtain rfl : k = m := by omega
      go_wp2
      go_ret
      exact ⟨rfl, hM.below⟩

set_option maxRecDepth 100000 in
set_option maxHeartbeats 2000000 in
theorem indexI16_any (h : Nat → Int) (b N m c : Nat) (F : Nat → Value) (hm : m < 100) (hN : m + 1 ≤ N) (hv : ∀ i, i < m + 1 → F i = .int .i16 (h i)) (w : World) (hA : At w b N F) :
    Calls Tryd.prog 83 #[.slice (some ⟨b, 0, none⟩) (m + 1) c, .int .i16 (h (topK h m))] w fun e w' => e = .returned (.int .i64 (topK h m : Nat)) ∧ Below w.heap.size w w' := by
  have hM : Mem w [(b, N, F)] w := (Mem.nil w).old hA (fun i p h => by simp at h)
  have hb := topK_le h m
  have hf := topK_first h m
  have Hf := Lib.hid hf
  have Hv := Lib.hid hv
  generalize topK h m = B at *
  clear hA hf hv
  go_enter Tryd.func83, Tryd.ntmps83
  go_wp2
  go_loopw [8] (fun i wr => ∃ k : Nat, k ≤ B ∧ i = .int .i64 k ∧ Mem w [(b, N, F)] wr) (fun i _ => m + 1 - (intOf i).toNat)
  case atStart => exact ⟨0, by omega, rfl, hM⟩
  case round =>
    clear hM
    obtain ⟨k, hk, rfl, hM⟩ := hrel
    have lk : (k : Int) < ((m + 1 : Nat) : Int) := by omega
    have lk' : (k : Int) < (m : Int) + 1 := by omega
    have e1 : F k = .int .i16 (h k) := Hv.out _ (by omega)
    by_cases he : k = B
    · subst he
      go_wp2_with (first | (refine wpList_get1 rfl _ _ rfl _ _ rfl hM 0 rfl (cellTab _ rfl) (by omega) _ e1 ?_))
      go_ret
      exact ⟨rfl, hM.below⟩
    · have hlt := Hf.out k (by omega)
      have hne : ¬ h B = h k := by omega
      have hne' : (h B == h k) = false := by rw [beq_eq_false_iff_ne]; omega
      clear hlt
      go_wp2_with (first | (refine wpList_get1 rfl _ _ rfl _ _ rfl hM 0 rfl (cellTab _ rfl) (by omega) _ e1 ?_))
      go_roundw
      case rel => exact ⟨k + 1, by omega, by go_num, hM⟩
      case measure => simp [intOf]; omega

theorem firstMost16_any (h : Nat → Int) (b N m c : Nat) (F : Nat → Value) (hm : m < 100) (hN : m + 1 ≤ N) (hv : ∀ i, i < m + 1 → F i = .int .i16 (h i)) (w : World) (hA : At w b N F) :
    Calls Tryd.prog 75 #[.slice (some ⟨b, 0, none⟩) (m + 1) c] w fun e w' => e = .returned (.tuple #[.int .i64 (topK h m : Nat), .int .i16 (h (topK h m))]) ∧ Below w.heap.size w w' := by
  have hM : Mem w [(b, N, F)] w := (Mem.nil w).old hA (fun i p h => by simp at h)
  have Hv := Lib.hid hv
  clear hv
  go_enter Tryd.func75, Tryd.ntmps75
  go_wp2_with (first | (go_at_call 82; (with_reducible refine (maxI16_any h b N m c F hm hN Hv.out _ (hM.ats 0 _ _ _ rfl)).mono ?_); rintro e W' ⟨rfl, hb'⟩; have hM' := hM.call hb'; clear hM hb'; have hM := hM'; clear hM') | (go_at_call 83; (with_reducible refine (indexI16_any h b N m c F hm hN Hv.out _ (hM.ats 0 _ _ _ rfl)).mono ?_); rintro e W' ⟨rfl, hb'⟩; have hM' := hM.call hb'; clear hM hb'; have hM := hM'; clear hM'))
  go_ret2
  exact ⟨rfl, hM.below⟩

set_option maxRecDepth 100000 in
set_option maxHeartbeats 4000000 in
theorem richestMeadow_any (bl N n c : Nat) (F : Nat → Value) (hs : Nat → Nat → Int) (hn : 1 ≤ n) (hn6 : n ≤ 6) (hN : n * 3 ≤ N) (hf : ∀ j, j < n * 3 → F j = sMeadow hs j) (w : World) (hA : At w bl N F) :
    Calls Tryd.prog 60 #[.slice (some ⟨bl, 0, none⟩) n c] w (GivesV [richK hs n] w) := by
  have hM : Mem w [(bl, N, F)] w := (Mem.nil w).old hA (fun i p h => by simp at h)
  obtain ⟨m, rfl⟩ : ∃ m, n = m + 1 := ⟨n - 1, by omega⟩
  have hr : richK hs (m + 1) = topK (fun i => hs i 0) m := rfl
  rw [hr]
  have Hf := Lib.hid hf
  clear hA hf hr
  go_enter Tryd.func60, Tryd.ntmps60
  go_wp2
  go_loopw [3, 10] (fun v i wr => ∃ k : Nat, k ≤ m + 1 ∧ i = .int .i64 k ∧ Lst w [(bl, N, F)] 1 v k (v16 (fun i => hs i 0)) wr) (fun _ i _ => m + 1 - (intOf i).toNat)
  case atStart => exact ⟨0, by omega, rfl, .inl ⟨rfl, rfl, hM⟩⟩
  case round =>
    clear hM
    obtain ⟨k, hk, rfl, hL⟩ := hrel
    by_cases hlt : k < m + 1
    · have l2 : (k : Int) < ((m + 1 : Nat) : Int) := by omega
      have l2' : (k : Int) < (m : Int) + 1 := by omega
      have er : arr 3 (fun j => F (k * 3 + j)) = arr 3 (vMeadow (hs k)) := arr_congr fun j hj => by rw [Hf.out _ (by omega)]; exact sMeadow_row hs k j hj
      have e0 : vMeadow (hs k) 0 = .int .i16 (hs k 0) := rfl
      have hk2 : k ≤ 1048576 := by omega
      rcases hL with ⟨rfl, hn0, hM⟩ | ⟨b, c1, F1, rfl, hbb, hnc, hF1, hM⟩
      · subst hn0
        have er0 : arr 3 (fun j => F (0 + j)) = arr 3 (vMeadow (hs 0)) := arr_congr fun j hj => by rw [Hf.out _ (by omega)]; exact sMeadow_row hs 0 j hj
        clear er
        have Hq : Hid (∀ j, j < 1 → (fun _ => Value.int .i16 (hs 0 0)) j = v16 (fun i => hs i 0) j) := Lib.hid (fun j hj => by
          obtain rfl : j = 0 := (by omega)
          rfl)
        have tk_l1 : True := trivial; have tk_p1 : True := trivial; have tk_r1 : True := trivial; have tk_b3 : True := trivial; have tk_r2 : True := trivial
        go_wp2_with (first | (have _t := tk_r1; (refine wpList_get rfl _ _ rfl _ _ rfl hM 0 rfl rowMeadow (by omega) ?_); rw [er0]; clear tk_r1) | (have _t := tk_b3; refine wpList_zero rfl _ rfl zeroMeadow hM ?_; intro b3 W' hb3 hM'; clear hM tk_b3; have hM := hM'; clear hM') | (have _t := tk_r2; (refine wpList_lay rfl _ _ _ rfl _ _ rfl _ _ rfl hM 0 rfl (by assumption) rowMeadow (by omega) (fun _ _ => rfl) ?_; intro W' hM'; clear hM; have hM1 := hM'.re 0 rfl (vMeadow (hs 0)) (fun j hj => by simp only [lay]; rw [if_pos ⟨by omega, by omega⟩, Nat.sub_zero]); simp only [List.set_cons_zero] at hM1; clear hM'; have hM := hM1; clear hM1); clear tk_r2) | (refine wpList_get1 rfl _ _ rfl _ _ rfl hM 0 rfl (cellTab _ rfl) (by omega) _ e0 ?_) | (have _t := tk_l1; refine wpList_lit1 rfl _ _ _ rfl (.int .i16 (hs 0 0)) rfl rfl _ int16s_under int16_info hM ?_; intro l1 W' hl1 hM'; clear hM tk_l1; have hM := hM'; clear hM') | (have _t := tk_p1; refine wpList_push0 rfl _ _ _ rfl _ 1 _ _ int16s_under int16_infoB rfl (by omega) rfl _ _ rfl hM (v16 (fun i => hs i 0)) Hq.out ?_; intro bL cL FL W' hbL hcL hFL hM'; clear hM tk_p1; have hM := hM'; clear hM'))
        go_roundw
        case rel => exact ⟨1, by omega, by first | rfl | go_num, by
          exact .inr ⟨bL, cL, FL, rfl, hbL, hcL, hFL, hM.skip⟩⟩
        case measure => simp [intOf]
      · have Hf1 : Hid (∀ j, j < k * 1 → F1 j = v16 (fun i => hs i 0) j) := Lib.hid hF1
        have Hnew : Hid (∀ j, j < 1 → (fun _ => Value.int .i16 (hs k 0)) j = v16 (fun i => hs i 0) (k * 1 + j)) := Lib.hid (fun j hj => by
          obtain rfl : j = 0 := (by omega)
          rw [Nat.mul_one]; rfl)
        clear hF1
        have tk_l1 : True := trivial; have tk_p1 : True := trivial; have tk_r1 : True := trivial; have tk_b3 : True := trivial; have tk_r2 : True := trivial; have tk_r3 : True := trivial
        go_wp2_with (first | (have _t := tk_r1; (refine wpList_get rfl _ _ rfl _ _ rfl hM 1 rfl rowMeadow (by omega) ?_); rw [er]; clear tk_r1) | (have _t := tk_b3; refine wpList_zero rfl _ rfl zeroMeadow hM ?_; intro b3 W' hb3 hM'; clear hM tk_b3; have hM := hM'.swap; clear hM') | (have _t := tk_r2; (refine wpList_lay rfl _ _ _ rfl _ _ rfl _ _ rfl hM 1 rfl (by assumption) rowMeadow (by omega) (fun _ _ => rfl) ?_; intro W' hM'; clear hM; have hM1 := hM'.re 1 rfl (vMeadow (hs k)) (fun j hj => by simp only [lay]; rw [if_pos ⟨by omega, by omega⟩, Nat.sub_zero]); simp only [List.set_cons_zero, List.set_cons_succ] at hM1; clear hM'; have hM := hM1; clear hM1); clear tk_r2) | (have _t := tk_r3; refine wpList_get1 rfl _ _ rfl _ _ rfl hM 1 rfl (cellTab _ rfl) (by omega) _ e0 ?_; clear tk_r3) | (have _t := tk_l1; refine wpList_lit1 rfl _ _ _ rfl (.int .i16 (hs k 0)) rfl rfl _ int16s_under int16_info hM ?_; intro l1 W' hl1 hM'; clear hM tk_l1; have hM := hM'; clear hM') | (have _t := tk_p1; refine wpList_push1 rfl _ _ _ rfl _ 1 _ _ int16s_under int16_infoB rfl (by omega) _ _ _ _ rfl hbb hnc hk2 _ _ rfl i16_one hM (v16 (fun i => hs i 0)) Hf1.out Hnew.out ?_; intro bL cL FL W' hbL hcL hFL hM'; clear hM tk_p1; have hM := hM'; clear hM'))
        go_roundw
        case rel => exact ⟨k + 1, by omega, by go_num, .inr ⟨bL, cL, FL, rfl, hbL, hcL, hFL, hM.skip⟩⟩
        case measure => simp [intOf]; omega
    · obtain rfl : k = m + 1 := by omega
      rcases hL with ⟨rfl, hn0, hM⟩ | ⟨b, c1, F1, rfl, hbb, hnc, hF1, hM⟩
      · omega
      have hm : m < 100 := by omega
      have hN1 : m + 1 ≤ c1 * 1 := by omega
      have Hv : Hid (∀ i, i < m + 1 → F1 i = .int .i16 ((fun i => hs i 0) i)) := Lib.hid (fun i hi => hF1 i (by omega))
      clear hF1
      generalize hh : (fun i => hs i 0) = h at *
      have Hh := Lib.hid hh
      clear hh
      have tk_l1 : True := trivial
      go_wp2_with (first | (go_at_call 75; (with_reducible refine (firstMost16_any h b (c1 * 1) m c1 F1 hm hN1 Hv.out _ (hM.ats 0 _ _ _ rfl)).mono ?_); rintro e W' ⟨rfl, hb'⟩; have hM' := hM.call hb'; clear hM hb'; have hM := hM'; clear hM') | (have _t := tk_l1; refine wpList_lit1 rfl _ _ _ rfl (.int .i64 (topK h m : Nat)) rfl rfl _ int64s_underR int64_infoR hM ?_; intro l1 W' hl1 hM'; clear hM tk_l1; have hM := hM'; clear hM'))
      go_ret
      exact ⟨_, rfl, .inr ⟨l1, 1, _, rfl, hl1, Nat.le_refl _, fun j hj => by
        obtain rfl : j = 0 := by simp at hj; omega
        rw [Hh.out]; rfl, hM.skip.skip⟩⟩
end Go.Proofs.YtbbododeglkghaaDoor

