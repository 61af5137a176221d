/-
  Several texts in one: GivesR, Num, Rests, SearchM, MeadowD2, FromS.
-/
import Derived.Test.YtbbododeglkghaaDoorP4
import Derived.Test.YtbbododeglkghaaDoorP1
import Derived.Test.YtbbododeglkghaaDoorP3
import Derived.Deep.Upon
/-
  PLAIN: what a call gives that returns a list and a code (or a list, a number and a code): no element, or the first cells of a new block; a block brought to the front.
-/
namespace Go.Proofs.YtbbododeglkghaaDoor
open Go Go.RowKit

/-- The list v: n elements of m cells, R, in a new block; or none. -/
def NewL (m n : Nat) (R : Nat → Value) (w : World) (v : Value) (w' : World) : Prop :=
  (n = 0 ∧ (∃ a c, v = .slice a 0 c) ∧ Below w.heap.size w w') ∨ ∃ b c N F, v = .slice (some ⟨b, 0, none⟩) n c ∧ w.heap.size ≤ b ∧ n * m ≤ N ∧ (∀ j, j < n * m → F j = R j) ∧ At w' b N F ∧ Below w.heap.size w w'
def GivesR (m n : Nat) (R : Nat → Value) (cc : Int) (w : World) (e : Ending) (w' : World) : Prop := ∃ v, e = .returned (.tuple #[v, .int .i64 cc]) ∧ NewL m n R w v w'
def GivesR2 (m n : Nat) (R : Nat → Value) (x cc : Int) (w : World) (e : Ending) (w' : World) : Prop := ∃ v, e = .returned (.tuple #[v, .int .i64 x, .int .i64 cc]) ∧ NewL m n R w v w'
theorem NewL.zero {m n : Nat} {R : Nat → Value} {w : World} {v : Value} {w' : World} (h : NewL m n R w v w') (hn : n = 0) : ∃ a c, v = .slice a 0 c ∧ Below w.heap.size w w' := by
  rcases h with ⟨-, ⟨a, c, h⟩, hb⟩ | ⟨b, c, N, F, h, -, -, -, -, hb⟩
  · exact ⟨a, c, h, hb⟩
  · exact ⟨_, c, by rw [h, hn], hb⟩
theorem NewL.some {m n : Nat} {R : Nat → Value} {w : World} {v : Value} {w' : World} (h : NewL m n R w v w') (hn : 0 < n) : ∃ b c N F, v = .slice (some ⟨b, 0, none⟩) n c ∧ w.heap.size ≤ b ∧ n * m ≤ N ∧ (∀ j, j < n * m → F j = R j) ∧ At w' b N F ∧ Below w.heap.size w w' := by
  rcases h with ⟨h, -⟩ | h
  · omega
  · exact h
theorem GivesR.to {m n n' : Nat} {R R' : Nat → Value} {c c' : Int} {w : World} {e : Ending} {w' : World} (h : GivesR m n R c w e w') (hn : n = n') (hR : R = R') (hc : c = c') : GivesR m n' R' c' w e w' := by rw [← hn, ← hR, ← hc]; exact h
/-- No list. -/
theorem GivesR.none {m : Nat} {R : Nat → Value} {n : Nat} {cc cc' : Int} {w w' : World} {a : Option Addr} {c : Nat} (hb : Below w.heap.size w w') (hn : n = 0) (hc : cc' = cc) : GivesR m n R cc w (.returned (.tuple #[.slice a 0 c, .int .i64 cc'])) w' := ⟨_, by rw [hc], .inl ⟨hn, ⟨a, c, rfl⟩, hb⟩⟩
/-- The i-th block is brought to the front. -/
theorem Mem.toFront {w : Base} {W : World} {L : Blocks} (h : Mem w L W) (i : Nat) {p : Nat × Nat × (Nat → Value)} (hi : L[i]? = some p) : Mem w (p :: L.eraseIdx i) W := by
  have key : ∀ j q, (L.eraseIdx i)[j]? = some q → L[if j < i then j else j + 1]? = some q := fun j q hq => by
    rw [List.getElem?_eraseIdx] at hq
    split at hq <;> rename_i hji
    · rw [if_pos hji]; exact hq
    · rw [if_neg hji]; exact hq
  refine ⟨h.good, fun j b n f hj => ?_, fun j k x y hj hk hne => ?_⟩
  · match j, hj with
    | 0, hj => simp at hj; subst hj; exact h.ats i _ _ _ hi
    | j + 1, hj => exact h.ats _ b n f (key j _ (by simpa using hj))
  · match j, k, hj, hk with
    | 0, 0, _, _ => exact absurd rfl hne
    | 0, k + 1, hj, hk =>
      simp at hj; subst hj
      exact h.apart i _ _ y hi (key k _ (by simpa using hk)) (by split <;> omega)
    | j + 1, 0, hj, hk =>
      simp at hk; subst hk
      exact h.apart _ i x _ (key j _ (by simpa using hj)) hi (by split <;> omega)
    | j + 1, k + 1, hj, hk => exact h.apart _ _ x y (key j _ (by simpa using hj)) (key k _ (by simpa using hk)) (by split <;> split <;> omega)
end Go.Proofs.YtbbododeglkghaaDoor

/-
  A number and a code, as results.
-/
namespace Go.Proofs.YtbbododeglkghaaDoor
open Go Go.RowKit

/-- A number and a code. -/
def numR (n c : Int) : Value := .tuple #[.int .i64 n, .int .i64 c]
theorem numR_eq (n c : Int) : numR n c = .tuple #[.int .i64 n, .int .i64 c] := rfl
theorem ret_num {n n' c c' : Int} (h : n = n') (h' : c = c') : Ending.returned (.tuple #[.int .i64 n, .int .i64 c]) = .returned (numR n' c') := by rw [h, h', numR_eq]
end Go.Proofs.YtbbododeglkghaaDoor

/-
  spec.RestsOf and impl.RestsOf by contracts.
-/
namespace Go.Proofs.YtbbododeglkghaaDoor
open Go Go.RowKit Go.BigFrame

/-- The last of the first i days in the m-th meadow, -1 if there is none; the rests. -/
def lastR (ys : Nat → Int) (m : Int) : Nat → Int
  | 0 => -1
  | i + 1 => if ys i = m then i else lastR ys m i
def restR (ys : Nat → Int) (m : Int) : Nat → List Int
  | 0 => []
  | i + 1 => if ys i = m ∧ 0 ≤ lastR ys m i then restR ys m i ++ [i - lastR ys m i - 1] else restR ys m i
theorem lastR_in (ys : Nat → Int) (m : Int) : ∀ i, -1 ≤ lastR ys m i ∧ lastR ys m i < i
  | 0 => by simp [lastR]
  | i + 1 => by
    have := lastR_in ys m i
    simp only [lastR]
    split <;> omega
theorem restR_len (ys : Nat → Int) (m : Int) : ∀ i, (restR ys m i).length ≤ i
  | 0 => by simp [restR]
  | i + 1 => by
    have := restR_len ys m i
    simp only [restR]
    split
    · rw [List.length_append, List.length_singleton]; omega
    · omega
/-- A list of numbers as cells. -/
def numsF (l : List Int) : Nat → Int := fun j => l.getD j 0
def vI (l : List Int) : Nat → Value := vInt64S (numsF l)
theorem vI_old (l : List Int) (x : Int) {j : Nat} (h : j < l.length * 1) : vI l j = vI (l ++ [x]) j := by
  simp only [vI, vInt64S, numsF, List.getD_eq_getElem?_getD]
  rw [List.getElem?_append_left (by omega)]
theorem vI_new (l : List Int) (x : Int) {j : Nat} (h : j < 1) : (fun _ => Value.int .i64 x) j = vI (l ++ [x]) (l.length * 1 + j) := by
  obtain rfl : j = 0 := by omega
  simp [vI, vInt64S, numsF, List.getD_eq_getElem?_getD]
theorem i64_one {x : Int} : ∀ k, k < 1 → ((fun _ => Value.int .i64 x) k).oneCell' = true := fun _ _ => rfl
theorem int64s_underR : Tryd.prog.underlying 31 = some (.slice 2) := Tryd.underlying31
theorem int64_infoR : (Tryd.prog.info? 2).map (fun i => (i.size, i.zero)) = some (1, some (.int .i64 0)) := by kernel_rfl
theorem int64_info0 : (Tryd.prog.info? 2).map (fun i => i.size) = some 1 := by kernel_rfl
def restB (p : Nat) (ys : Nat → Int) (m : Int) : Bool := planB 6 p ys && inB 0 5 m
def restL (p : Nat) (ys : Nat → Int) (m : Int) : List Int := if restB p ys m then restR ys m p else []
def restC (p : Nat) (ys : Nat → Int) (m : Int) : Int := if restB p ys m then 0 else 2
/-- What comes of it. -/
def GivesI64 (l : List Int) (cc : Int) (w : World) (e : Ending) (w' : World) : Prop := GivesR 1 l.length (vI l) cc w e w'
theorem Lst.newL {w : World} {m n : Nat} {v : Value} {R : Nat → Value} {W : World} (h : Lst w [] m v n R W) : NewL m n R w v W := by
  rcases h with ⟨h1, h2, h⟩ | ⟨b, c, F, h1, h2, h3, h4, h⟩
  · exact .inl ⟨h2, ⟨none, 0, h1⟩, h.below⟩
  · exact .inr ⟨b, c, _, F, h1, h2, Nat.mul_le_mul_right _ h3, h4, h.at0, h.below⟩
theorem rest_no {p : Nat} {ys : Nat → Int} {m : Int} (h : restB p ys m = false) : restL p ys m = [] ∧ restC p ys m = 2 := by simp [restL, restC, h]
theorem rest_yes {p : Nat} {ys : Nat → Int} {m : Int} (h : restB p ys m = true) : restL p ys m = restR ys m p ∧ restC p ys m = 0 := by simp [restL, restC, h]
theorem givesI_none {p : Nat} {ys : Nat → Int} {m : Int} (h : restB p ys m = false) {w W : World} (hb : Below w.heap.size w W) {a : Option Addr} {c : Nat} : GivesI64 (restL p ys m) (restC p ys m) w (.returned (.tuple #[.slice a 0 c, .int .i64 2])) W := by
  rw [(rest_no h).1, (rest_no h).2]
  exact ⟨_, rfl, .inl ⟨rfl, ⟨a, c, rfl⟩, hb⟩⟩
theorem givesI_some {p : Nat} {ys : Nat → Int} {m : Int} (h : restB p ys m = true) {w W : World} {v : Value} (hL : Lst w [] 1 v (restR ys m p).length (vI (restR ys m p)) W) : GivesI64 (restL p ys m) (restC p ys m) w (.returned (.tuple #[v, .int .i64 0])) W := by
  rw [(rest_yes h).1, (rest_yes h).2]
  exact ⟨v, rfl, hL.newL⟩

set_option maxRecDepth 100000 in
set_option maxHeartbeats 8000000 in
theorem specRestsOf_l (bp p cp : Nat) (ys : Nat → Int) (hp : p ≤ 1048576) (m : Int) (w : World) (hP : At w bp p (vInt64S ys)) :
    Calls Tryd.prog 31 #[.slice (some ⟨bp, 0, none⟩) p cp, .int .i64 m] w (GivesI64 (restL p ys m) (restC p ys m) w) := by
  have hM : Mem w [(bp, p, vInt64S ys)] w := (Mem.nil w).old hP (fun i p h => by simp at h)
  clear hP
  have six : ((6 : Nat) : Int) - 1 = 5 := by decide
  by_cases h1 : p ≤ 30 ∧ inB 0 5 m = true
  case neg =>
    have hb : restB p ys m = false := by
      unfold restB planB
      by_cases h2 : p ≤ 30
      · have : inB 0 5 m = false := by
          cases h3 : inB 0 5 m
          · rfl
          · exact absurd ⟨h2, h3⟩ h1
        rw [this, Bool.and_false]
      · rw [decide_eq_false h2]; rfl
    have Hb := Lib.hid hb
    rcases (show ¬ p ≤ 30 ∨ (p ≤ 30 ∧ inB 0 5 m = false) by
      by_cases h2 : p ≤ 30
      · refine .inr ⟨h2, ?_⟩
        cases h3 : inB 0 5 m
        · rfl
        · exact absurd ⟨h2, h3⟩ h1
      · exact .inl h2) with h2 | ⟨h2, h3⟩
    all_goals
      first | have d1 : decide ((p : Int) ≤ 30) = false := decide_eq_false (by omega)
            | have d1 : decide ((p : Int) ≤ 30) = true := decide_eq_true (by omega)
      first | have H3 := Lib.hid h3
            | skip
      clear h1 hb
      try clear h3
      have tk_s1 : True := trivial
      go_enter Tryd.func31, Tryd.ntmps31
      go_wp2_with (first | (go_at_call 55; (with_reducible refine (l00In_any m 0 5 _).mono ?_); rintro e W' ⟨rfl, hb'⟩; rw [H3.out]; have hM' := hM.call hb'; clear hM hb'; have hM := hM'; clear hM'))
      go_loopw [6, 7] (fun f i wr => ∃ k : Nat, k ≤ p ∧ f = .bool false ∧ i = .int .i64 k ∧ Mem w [(bp, p, vInt64S ys)] wr) (fun _ i _ => p - (intOf i).toNat)
      case atStart => exact ⟨0, by omega, rfl, rfl, hM⟩
      case round =>
        clear hM
        obtain ⟨k, hk, rfl, rfl, hM⟩ := hrel
        by_cases hlt : k < p
        · have l2 : (k : Int) < p := by omega
          go_wp2
          go_roundw
          case rel => exact ⟨k + 1, by omega, rfl, by go_num, hM⟩
          case measure => simp [intOf]; omega
        · obtain rfl : k = p := by omega
          go_wp2_with (first | (have _t := tk_s1; refine wpList_slice0 rfl _ _ rfl _ int64s_underR int64_info0 hM ?_; intro s1 W' hs1 hM'; clear hM tk_s1; have hM := hM'; clear hM'))
          go_ret2
          exact givesI_none Hb.out hM.below
  have d1 : decide ((p : Int) ≤ 30) = true := decide_eq_true (by omega)
  have hp30 := h1.1
  have H3 := Lib.hid h1.2
  clear h1
  go_enter Tryd.func31, Tryd.ntmps31
  go_wp2_with (first | (go_at_call 55; (with_reducible refine (l00In_any m 0 5 _).mono ?_); rintro e W' ⟨rfl, hb'⟩; rw [H3.out]; have hM' := hM.call hb'; clear hM hb'; have hM := hM'; clear hM'))
  go_loopw [6, 7] (fun f i wr => ∃ k : Nat, k ≤ p ∧ f = .bool (planTo 6 ys k) ∧ i = .int .i64 k ∧ Mem w [(bp, p, vInt64S ys)] wr) (fun _ i _ => p - (intOf i).toNat)
  case atStart => exact ⟨0, by omega, rfl, rfl, hM⟩
  case round =>
    clear hM
    obtain ⟨k, hk, rfl, rfl, hM⟩ := hrel
    by_cases hlt : k < p
    · have l2 : (k : Int) < p := by omega
      have ek : vInt64S ys k = .int .i64 (ys k) := rfl
      have hs := planTo_succ 6 ys k
      rw [six] at hs
      have Hs := Lib.hid hs
      clear hs
      cases hf : planTo 6 ys k
      · have Hn : Hid (planTo 6 ys (k + 1) = false) := Lib.hid (by rw [Hs.out, hf]; rfl)
        go_wp2
        go_roundw
        case rel => exact ⟨k + 1, by omega, congrArg Value.bool Hn.out.symm, by go_num, hM⟩
        case measure => simp [intOf]; omega
      · cases hi : inB 0 5 (ys k)
        all_goals
          have Hi := Lib.hid hi
          have Hn : Hid (planTo 6 ys (k + 1) = inB 0 5 (ys k)) := Lib.hid (by rw [Hs.out, hf]; rfl)
          clear hi
          go_wp2_with (first | (refine wpList_gget1 ?_ _ _ rfl _ _ rfl hM 0 rfl (cellTab _ rfl) (by omega) _ ek ?_; kernel_rfl) | (go_at_call 55; (with_reducible refine (l00In_any (ys k) 0 5 _).mono ?_); rintro e W' ⟨rfl, hb'⟩; rw [Hi.out]; have hM' := hM.call hb'; clear hM hb'; have hM := hM'; clear hM'))
          go_roundw
          case rel => exact ⟨k + 1, by omega, congrArg Value.bool (by rw [Hn.out, Hi.out]), by go_num, hM⟩
          case measure => simp [intOf]; omega
    · obtain rfl : k = p := by omega
      have hr : restB k ys m = planTo 6 ys k := by unfold restB planB; rw [H3.out, decide_eq_true hp30, Bool.and_true, Bool.true_and]
      cases hf : planTo 6 ys k
      · have Hr := Lib.hid (hr.trans hf)
        clear hr
        have tk_s1 : True := trivial
        go_wp2_with (first | (have _t := tk_s1; refine wpList_slice0 rfl _ _ rfl _ int64s_underR int64_info0 hM ?_; intro s1 W' hs1 hM'; clear hM tk_s1; have hM := hM'; clear hM'))
        go_ret2
        exact givesI_none Hr.out hM.below
      have Hr := Lib.hid (hr.trans hf)
      clear hr hf
      have tk_s1 : True := trivial
      go_wp2_with (first | (have _t := tk_s1; refine wpList_slice0 rfl _ _ rfl _ int64s_underR int64_info0 hM ?_; intro s1 W' hs1 hM'; clear hM tk_s1; have hM := hM'; clear hM'))
      go_loopw [8, 9, 10] (fun v l i wr => ∃ q : Nat, q ≤ k ∧ l = .int .i64 (lastR ys m q) ∧ i = .int .i64 q ∧ Lst w [(bp, k, vInt64S ys)] 1 v (restR ys m q).length (vI (restR ys m q)) wr) (fun _ _ i _ => k - (intOf i).toNat)
      case atStart => exact ⟨0, by omega, rfl, rfl, .inr ⟨s1, 0, fun _ => undef, rfl, hs1, Nat.le_refl _, fun j hj => absurd hj (by simp [restR]), hM⟩⟩
      case round =>
        clear hM hk hlt hp six
        obtain ⟨q, hq, rfl, rfl, hL⟩ := hrel
        by_cases hlt : q < k
        · have l2 : (q : Int) < k := by omega
          have hli := lastR_in ys m q
          have hll := restR_len ys m q
          have eqc : wr.cell? ⟨bp, q, none⟩ = some (.int .i64 (ys q)) := (hL.mem.ats 0 _ _ _ rfl).cell (by omega)
          by_cases hm : ys q = m
          · have hb0 : (ys q != m) = false := by simp [hm]
            have Hla : Hid (lastR ys m (q + 1) = q) := Lib.hid (by simp [lastR, hm])
            by_cases h0 : 0 ≤ lastR ys m q
            · have Hre : Hid (restR ys m (q + 1) = restR ys m q ++ [(q : Int) - lastR ys m q - 1]) := Lib.hid (by simp only [restR]; rw [if_pos ⟨hm, h0⟩])
              have d0 : decide (0 ≤ lastR ys m q) = true := decide_eq_true h0
              have n1 : IntKind.i64.wrap ((q : Int) - lastR ys m q) = (q : Int) - lastR ys m q := IntWalk.i64_in _ (by omega)
              have n2 : IntKind.i64.wrap ((q : Int) - lastR ys m q - 1) = (q : Int) - lastR ys m q - 1 := IntWalk.i64_in _ (by omega)
              have hn : (restR ys m q).length ≤ 1048576 := by omega
              clear hm h0 hli hll
              generalize lastR ys m q = la at *
              generalize hx : (q : Int) - la - 1 = x at *
              generalize restR ys m q = rl at *
              have Hnew := Lib.hid (fun j (hj : j < 1) => vI_new rl x hj)
              rcases hL with ⟨rfl, hn0, hM⟩ | ⟨b, c, F, rfl, hbb, hnc, hF, hM⟩
              · have Hq : Hid (∀ j, j < 1 → (fun _ => Value.int .i64 x) j = vI (rl ++ [x]) j) := Lib.hid (fun j hj => by have := Hnew.out j hj; rwa [hn0, Nat.zero_mul, Nat.zero_add] at this)
                have tk_l1 : True := trivial; have tk_p1 : True := trivial
                go_wp2_with (first | (have _t := tk_l1; refine wpList_lit1 rfl _ _ _ rfl (.int .i64 x) (by first | rfl | exact congrArg (Value.int .i64) hx) rfl _ int64s_underR int64_infoR hM ?_; intro l1 W' hl1 hM'; clear hM tk_l1; have hM := hM'; clear hM') | (have _t := tk_p1; refine wpList_push0 rfl _ _ _ rfl _ 1 _ _ int64s_underR infoInt64S rfl (by omega) rfl _ _ rfl hM (vI (rl ++ [x])) Hq.out ?_; intro bL cL FL W' hbL hcL hFL hM'; clear hM tk_p1; have hM := hM'; clear hM'))
                go_roundw
                case rel => exact ⟨q + 1, by omega, by rw [Hla.out], by go_num, by
                  rw [Hre.out, List.length_append, hn0]
                  exact .inr ⟨bL, cL, FL, rfl, hbL, hcL, hFL, hM⟩⟩
                case measure => simp [intOf]; omega
              · have Hf : Hid (∀ j, j < rl.length * 1 → F j = vI (rl ++ [x]) j) := Lib.hid (fun j hj => by rw [hF j hj]; exact vI_old rl x hj)
                clear hF
                have tk_l1 : True := trivial; have tk_p1 : True := trivial
                go_wp2_with (first | (have _t := tk_l1; refine wpList_lit1 rfl _ _ _ rfl (.int .i64 x) (by first | rfl | exact congrArg (Value.int .i64) hx) rfl _ int64s_underR int64_infoR hM ?_; intro l1 W' hl1 hM'; clear hM tk_l1; have hM := hM'; clear hM') | (have _t := tk_p1; refine wpList_push1 rfl _ _ _ rfl _ 1 _ _ int64s_underR infoInt64S rfl (by omega) _ _ _ _ rfl hbb hnc hn _ _ rfl i64_one hM (vI (rl ++ [x])) Hf.out Hnew.out ?_; intro bL cL FL W' hbL hcL hFL hM'; clear hM tk_p1; have hM := hM'; clear hM'))
                go_roundw
                case rel => exact ⟨q + 1, by omega, by rw [Hla.out], by go_num, by
                  rw [Hre.out, List.length_append]
                  exact .inr ⟨bL, cL, FL, rfl, hbL, hcL, hFL, hM⟩⟩
                case measure => simp [intOf]; omega
            · have Hre : Hid (restR ys m (q + 1) = restR ys m q) := Lib.hid (by simp only [restR]; rw [if_neg (fun h => h0 h.2)])
              have d0 : decide (0 ≤ lastR ys m q) = false := decide_eq_false h0
              clear hm
              go_wp2
              go_roundw
              case rel => exact ⟨q + 1, by omega, by rw [Hla.out], by go_num, by rw [Hre.out]; exact hL⟩
              case measure => simp [intOf]; omega
          · have hb0 : (ys q != m) = true := by simp [hm]
            have Hla : Hid (lastR ys m (q + 1) = lastR ys m q) := Lib.hid (by simp [lastR, hm])
            have Hre : Hid (restR ys m (q + 1) = restR ys m q) := Lib.hid (by simp only [restR]; rw [if_neg (fun h => hm h.1)])
            go_wp2
            go_roundw
            case rel => exact ⟨q + 1, by omega, by rw [Hla.out], by go_num, by rw [Hre.out]; exact hL⟩
            case measure => simp [intOf]; omega
        · obtain rfl : q = k := by omega
          go_wp2
          go_ret2
          exact givesI_some Hr.out hL.only
end Go.Proofs.YtbbododeglkghaaDoor

/-
  The search for a plan, as a function; everyMeadow by contract.
-/
namespace Go.Proofs.YtbbododeglkghaaDoor
open Go Go.RowKit Go.BigFrame

/-- What comes of a search: the plan if there is one, the tries, whether the budget has ended. -/
abbrev Fnd := Option (List Nat) × Nat × Bool
def tryL (need : Int) (B : Nat) (f : (Nat → Nat → Int) → Nat → Fnd) (hs : Nat → Nat → Int) : List Nat → Nat → Fnd
  | [], t => (none, t, false)
  | m :: ms, t =>
    if hs m 0 < need then tryL need B f hs ms t
    else if t = B then (none, t, true)
    else match f (dayM hs need m) (t + 1) with
      | (some p, t', _) => (some (m :: p), t', false)
      | (none, t', true) => (none, t', true)
      | (none, t', false) => tryL need B f hs ms t'
def goS (need : Int) (B : Nat) (off : (Nat → Nat → Int) → List Nat) : Nat → (Nat → Nat → Int) → Nat → Fnd
  | 0, _, t => (some [], t, false)
  | d + 1, hs, t => tryL need B (goS need B off d) hs (off hs) t
theorem tryL_le {need : Int} {B : Nat} {f : (Nat → Nat → Int) → Nat → Fnd} (hf : ∀ hs t, t ≤ B → (f hs t).2.1 ≤ B) (hs : Nat → Nat → Int) : ∀ ms t, t ≤ B → (tryL need B f hs ms t).2.1 ≤ B
  | [], t, h => h
  | m :: ms, t, h => by
    simp only [tryL]
    split
    · exact tryL_le hf hs ms t h
    · split
      · exact h
      · rename_i h1 h2
        have hq := hf (dayM hs need m) (t + 1) (by omega)
        cases hfr : f (dayM hs need m) (t + 1) with
        | mk o r =>
          obtain ⟨t', b⟩ := r
          rw [hfr] at hq
          cases o with
          | some p => exact hq
          | none => cases b
                    · exact tryL_le hf hs ms t' hq
                    · exact hq
theorem goS_le (need : Int) (B : Nat) (off : (Nat → Nat → Int) → List Nat) : ∀ d hs t, t ≤ B → (goS need B off d hs t).2.1 ≤ B
  | 0, _, _, h => h
  | d + 1, hs, t, h => tryL_le (goS_le need B off d) hs _ t h
theorem tryL_len {need : Int} {B d : Nat} {f : (Nat → Nat → Int) → Nat → Fnd} (hf : ∀ hs t p, (f hs t).1 = some p → p.length = d) (hs : Nat → Nat → Int) : ∀ ms t p, (tryL need B f hs ms t).1 = some p → p.length = d + 1
  | [], t, p, h => by simp [tryL] at h
  | m :: ms, t, p, h => by
    simp only [tryL] at h
    split at h
    · exact tryL_len hf hs ms t p h
    · split at h
      · simp at h
      · cases hfr : f (dayM hs need m) (t + 1) with
        | mk o r =>
          obtain ⟨t', b⟩ := r
          rw [hfr] at h
          cases o with
          | some q =>
            simp only [Option.some.injEq] at h
            subst h
            rw [List.length_cons, hf (dayM hs need m) (t + 1) q (by rw [hfr])]
          | none => cases b
                    · exact tryL_len hf hs ms t' p h
                    · simp at h
theorem goS_len (need : Int) (B : Nat) (off : (Nat → Nat → Int) → List Nat) : ∀ d hs t p, (goS need B off d hs t).1 = some p → p.length = d
  | 0, _, _, p, h => by simp [goS] at h; simp [← h]
  | d + 1, hs, t, p, h => tryL_len (goS_len need B off d) hs _ t p h
theorem goS_over (need : Int) (B : Nat) (off : (Nat → Nat → Int) → List Nat) (d : Nat) (hs : Nat → Nat → Int) (t : Nat) (p : List Nat) (h : (goS need B off d hs t).1 = some p) : (goS need B off d hs t).2.2 = false := by
  cases d with
  | zero => rfl
  | succ d =>
    simp only [goS] at h ⊢
    revert h
    generalize off hs = ms
    induction ms generalizing t with
    | nil => intro h; simp [tryL] at h
    | cons m ms ih =>
      intro h
      simp only [tryL] at h ⊢
      split at h
      · rename_i h1; rw [if_pos h1]; exact ih _ h
      · rename_i h1
        rw [if_neg h1]
        split at h
        · simp at h
        · rename_i h2
          rw [if_neg h2]
          cases hfr : goS need B off d (dayM hs need m) (t + 1) with
          | mk o r =>
            obtain ⟨t', b⟩ := r
            rw [hfr] at h
            cases o with
            | some q => rfl
            | none => cases b
                      · exact ih _ h
                      · simp at h
theorem tryL_poor {need : Int} {B : Nat} {f : (Nat → Nat → Int) → Nat → Fnd} {hs : Nat → Nat → Int} {m : Nat} {ms : List Nat} {t : Nat} (h : hs m 0 < need) : tryL need B f hs (m :: ms) t = tryL need B f hs ms t := by simp [tryL, h]
theorem tryL_spent {need : Int} {B : Nat} {f : (Nat → Nat → Int) → Nat → Fnd} {hs : Nat → Nat → Int} {m : Nat} {ms : List Nat} {t : Nat} (h : ¬ hs m 0 < need) (h2 : t = B) : tryL need B f hs (m :: ms) t = (none, t, true) := by simp [tryL, h, h2]
theorem tryL_some {need : Int} {B : Nat} {f : (Nat → Nat → Int) → Nat → Fnd} {hs : Nat → Nat → Int} {m : Nat} {ms : List Nat} {t : Nat} (h : ¬ hs m 0 < need) (h2 : ¬ t = B) {p : List Nat} {t' : Nat} {b : Bool} (hf : f (dayM hs need m) (t + 1) = (some p, t', b)) : tryL need B f hs (m :: ms) t = (some (m :: p), t', false) := by simp [tryL, h, h2, hf]
theorem tryL_over {need : Int} {B : Nat} {f : (Nat → Nat → Int) → Nat → Fnd} {hs : Nat → Nat → Int} {m : Nat} {ms : List Nat} {t : Nat} (h : ¬ hs m 0 < need) (h2 : ¬ t = B) {t' : Nat} (hf : f (dayM hs need m) (t + 1) = (none, t', true)) : tryL need B f hs (m :: ms) t = (none, t', true) := by simp [tryL, h, h2, hf]
theorem tryL_next {need : Int} {B : Nat} {f : (Nat → Nat → Int) → Nat → Fnd} {hs : Nat → Nat → Int} {m : Nat} {ms : List Nat} {t : Nat} (h : ¬ hs m 0 < need) (h2 : ¬ t = B) {t' : Nat} (hf : f (dayM hs need m) (t + 1) = (none, t', false)) : tryL need B f hs (m :: ms) t = tryL need B f hs ms t' := by simp [tryL, h, h2, hf]

/-- A list of indices as numbers. -/
def natI (l : List Nat) : List Int := l.map fun (k : Nat) => (k : Int)
theorem natI_len (l : List Nat) : (natI l).length = l.length := by simp [natI]
theorem natI_at {l : List Nat} {i : Nat} (h : i < l.length) : vI (natI l) i = .int .i64 (l[i] : Nat) := by
  simp [vI, vInt64S, numsF, natI, List.getD_eq_getElem?_getD, h]
theorem natI_snoc (l : List Nat) (m : Nat) : natI (l ++ [m]) = natI l ++ [(m : Int)] := by simp [natI]
theorem natI_cons (m : Nat) (l : List Nat) : natI (m :: l) = (m : Int) :: natI l := by simp [natI]
theorem vI_cons0 (x : Int) (l : List Int) : vI (x :: l) 0 = .int .i64 x := by simp [vI, vInt64S, numsF]
theorem vI_consS (x : Int) (l : List Int) (j : Nat) : vI (x :: l) (j + 1) = vI l j := by simp [vI, vInt64S, numsF, List.getD_eq_getElem?_getD]

theorem Lst.someQ {w : World} {m n : Nat} {v : Value} {R : Nat → Value} {W : World} (h : Lst w [] m v n R W) (hn : 0 < n) : ∃ b c F, v = .slice (some ⟨b, 0, none⟩) n c ∧ w.heap.size ≤ b ∧ n ≤ c ∧ (∀ j, j < n * m → F j = R j) ∧ At W b (c * m) F ∧ Below w.heap.size w W := by
  rcases h with ⟨-, h, -⟩ | ⟨b, c, F, h1, h2, h3, h4, h5⟩
  · omega
  · exact ⟨b, c, F, h1, h2, h3, h4, h5.at0, h5.below⟩
/-- A new list of numbers. -/
def GivesV (l : List Nat) (w : World) (e : Ending) (w' : World) : Prop := ∃ v, e = .returned v ∧ Lst w [] 1 v l.length (vI (natI l)) w'

set_option maxRecDepth 100000 in
set_option maxHeartbeats 1000000 in
theorem everyMeadow_any (n c : Nat) (a : Option Addr) (hn : n ≤ 6) (w : World) :
    Calls Tryd.prog 66 #[.slice a n c] w (GivesV (List.range n) w) := by
  have hM := Mem.nil w
  go_enter Tryd.func66, Tryd.ntmps66
  go_wp2
  go_loopw [3, 7] (fun v i wr => ∃ k : Nat, k ≤ n ∧ i = .int .i64 k ∧ Lst w [] 1 v (natI (List.range k)).length (vI (natI (List.range k))) wr) (fun _ i _ => n - (intOf i).toNat)
  case atStart => exact ⟨0, by omega, rfl, .inl ⟨rfl, rfl, hM⟩⟩
  case round =>
    clear hM
    obtain ⟨k, hk, rfl, hL⟩ := hrel
    by_cases hlt : k < n
    · have l2 : (k : Int) < n := by omega
      have hr : natI (List.range (k + 1)) = natI (List.range k) ++ [(k : Int)] := by rw [List.range_succ, natI_snoc]
      have hlen : (natI (List.range k)).length = k := by rw [natI_len, List.length_range]
      have Hr := Lib.hid hr
      have hn' : (natI (List.range k)).length ≤ 1048576 := by omega
      clear hr hlen
      generalize natI (List.range k) = rl at *
      have Hnew := Lib.hid (fun j (hj : j < 1) => vI_new rl (k : Int) hj)
      rcases hL with ⟨rfl, hn0, hM⟩ | ⟨b, c, F, rfl, hbb, hnc, hF, hM⟩
      · have Hq : Hid (∀ j, j < 1 → (fun _ => Value.int .i64 (k : Int)) j = vI (rl ++ [(k : Int)]) j) := Lib.hid (fun j hj => by have := Hnew.out j hj; rwa [hn0, Nat.zero_mul, Nat.zero_add] at this)
        have tk_l1 : True := trivial; have tk_p1 : True := trivial
        go_wp2_with (first | (have _t := tk_l1; refine wpList_lit1 rfl _ _ _ rfl (.int .i64 (k : Int)) rfl rfl _ int64s_underR int64_infoR hM ?_; intro l1 W' hl1 hM'; clear hM tk_l1; have hM := hM'; clear hM') | (have _t := tk_p1; refine wpList_push0 rfl _ _ _ rfl _ 1 _ _ int64s_underR infoInt64S rfl (by omega) rfl _ _ rfl hM (vI (rl ++ [(k : Int)])) Hq.out ?_; intro bL cL FL W' hbL hcL hFL hM'; clear hM tk_p1; have hM := hM'; clear hM'))
        go_roundw
        case rel => exact ⟨k + 1, by omega, by go_num, by
          rw [Hr.out, List.length_append, hn0]
          exact .inr ⟨bL, cL, FL, rfl, hbL, hcL, hFL, hM⟩⟩
        case measure => simp [intOf]; omega
      · have Hf : Hid (∀ j, j < rl.length * 1 → F j = vI (rl ++ [(k : Int)]) j) := Lib.hid (fun j hj => by rw [hF j hj]; exact vI_old rl (k : Int) hj)
        clear hF
        have tk_l1 : True := trivial; have tk_p1 : True := trivial
        go_wp2_with (first | (have _t := tk_l1; refine wpList_lit1 rfl _ _ _ rfl (.int .i64 (k : Int)) rfl rfl _ int64s_underR int64_infoR hM ?_; intro l1 W' hl1 hM'; clear hM tk_l1; have hM := hM'; clear hM') | (have _t := tk_p1; refine wpList_push1 rfl _ _ _ rfl _ 1 _ _ int64s_underR infoInt64S rfl (by omega) _ _ _ _ rfl hbb hnc hn' _ _ rfl i64_one hM (vI (rl ++ [(k : Int)])) Hf.out Hnew.out ?_; intro bL cL FL W' hbL hcL hFL hM'; clear hM tk_p1; have hM := hM'; clear hM'))
        go_roundw
        case rel => exact ⟨k + 1, by omega, by go_num, by
          rw [Hr.out, List.length_append]
          exact .inr ⟨bL, cL, FL, rfl, hbL, hcL, hFL, hM⟩⟩
        case measure => simp [intOf]; omega
    · obtain rfl : k = n := by omega
      go_wp2
      go_ret
      exact ⟨_, rfl, by rw [natI_len] at hL; exact hL⟩
end Go.Proofs.YtbbododeglkghaaDoor

/-
  spec.l07Day by contract.
-/
namespace Go.Proofs.YtbbododeglkghaaDoor
open Go Go.RowKit Go.BigFrame

set_option maxRecDepth 100000 in
set_option maxHeartbeats 4000000 in
theorem l07Day_any (b n c N : Nat) (F : Nat → Value) (hs : Nat → Nat → Int) (hn1 : 1 ≤ n) (hn : n ≤ 6) (hN : n * 3 ≤ N) (hF : ∀ j, j < n * 3 → F j = sMeadow hs j) (hb : ∀ i, i < n → meadB (hs i) = true) (need : Int) (hd : 1 ≤ need ∧ need ≤ 1000) (m : Nat) (hm : m < n) (he : need ≤ hs m 0) (w : World) (hA : At w b N F) :
    Calls Tryd.prog 44 #[.slice (some ⟨b, 0, none⟩) n c, .int .i64 need, .int .i64 m] w (GivesM n (dayM hs need m) w) := by
  have hM : Mem w [(b, N, F)] w := (Mem.nil w).old hA (fun i p h => by simp at h)
  have Hf := Lib.hid hF
  have Hb := Lib.hid hb
  obtain ⟨h2, h0, h1⟩ := meadB_iff (hb m hm)
  have lm : (m : Int) < n := by omega
  have em : sMeadow hs (m * 3) = .int .i16 (hs m 0) := sMeadow_row hs m 0 (by omega)
  have c0 : IntKind.i16.wrap need = need := IntWalk.i16_in _ (by omega)
  have c1 : IntKind.i16.wrap (hs m 0 - need) = hs m 0 - need := IntWalk.i16_in _ (by omega)
  clear hA hF hb
  have tk_b1 : True := trivial
  go_enter Tryd.func44, Tryd.ntmps44
  go_wp2_with (first | (have _t := tk_b1; refine wpList_slice0 rfl _ _ rfl _ meadow_under meadow_info0 hM ?_; intro b1 W' hb1 hM'; clear hM tk_b1; have hM := hM'; clear hM') | (refine wpList_cat0 rfl _ _ _ rfl _ 3 _ _ meadow_under infoMeadow rfl (by omega) b1 rfl b n c rfl hn1 (by omega) hM 1 rfl hN ?_; intro bL cL FL W' hbL hcL hFL hM'; clear hM; have hM := hM'; clear hM'; have Hl : Hid (∀ j, j < n * 3 → FL j = sMeadow hs j) := Lib.hid (fun j hj => by rw [hFL j hj, Hf.out j hj]); have el : FL (m * 3) = .int .i16 (hs m 0) := by rw [Hl.out _ (by omega), em]) | (refine wpList_get1 rfl _ _ rfl _ _ rfl hM 0 rfl (cellTab _ rfl) (by omega) _ el ?_) | (refine wpList_set1 rfl _ _ _ rfl _ _ rfl _ rfl ?_ hM 0 rfl (by assumption) (cellTab _ rfl) (by omega) ?_; (first | rfl | exact h1 _); intro W' hM'; clear hM; have hM := hM'; clear hM'; simp [List.set, Act.eval] at hM))
  go_loopw [8] (fun i wr => ∃ k : Nat, k ≤ n ∧ i = .int .i64 k ∧ ∃ G, Hid (∀ j, j < n * 3 → G j = sMeadow (mixM hs need m k) j) ∧ Mem w [(bL, cL * 3, G), (b1, 0, fun _ => undef), (b, N, F)] wr) (fun i _ => n - (intOf i).toNat)
  case atStart => exact ⟨0, by omega, rfl, _, Lib.hid (cut_cells need Hl.out), hM⟩
  case round =>
    clear hM el Hl hFL
    obtain ⟨k, hk, rfl, G, hG, hM⟩ := hrel
    by_cases hlt : k < n
    · have l2 : (k : Int) < n := by omega
      obtain ⟨k2, k0, k1⟩ := meadB_iff (Hb.out k hlt)
      have hc := cutM_in Hb.out hd he hlt
      have hr0 := sMeadow_row (mixM hs need m k) k 0 (by omega)
      have hr1 := sMeadow_row (mixM hs need m k) k 1 (by omega)
      have hr2 := sMeadow_row (mixM hs need m k) k 2 (by omega)
      have e0 : G (k * 3) = .int .i16 (cutM hs need m k 0) := by
        rw [hG.out _ (by omega)]; refine hr0.trans ?_; simp [vMeadow, mixM, kMeadow]
      have e1 : G (k * 3 + 1) = .int .i16 (hs k 1) := by
        rw [hG.out _ (by omega)]; refine hr1.trans ?_; simp [vMeadow, mixM, kMeadow, cutM_1]
      have e2 : G (k * 3 + 2) = .int .i16 (hs k 2) := by
        rw [hG.out _ (by omega)]; refine hr2.trans ?_; simp [vMeadow, mixM, kMeadow, cutM_2]
      clear hr0 hr1 hr2
      obtain ⟨q, hq⟩ : ∃ q : Int, q = cutM hs need m k 0 := ⟨_, rfl⟩
      rw [← hq] at e0 hc
      have hv : minQ (hs k 2) (q + hs k 1) = dayM hs need m k 0 := by simp [dayM, hq]
      have hvb : 0 ≤ minQ (hs k 2) (q + hs k 1) ∧ minQ (hs k 2) (q + hs k 1) ≤ 1000 := by unfold minQ; split <;> omega
      have d0 : IntKind.i64.wrap q = q := IntWalk.i64_in _ (by omega)
      have d1 : IntKind.i64.wrap (hs k 1) = hs k 1 := IntWalk.i64_in _ (by omega)
      have d2 : IntKind.i64.wrap (hs k 2) = hs k 2 := IntWalk.i64_in _ (by omega)
      have d3 : IntKind.i64.wrap (q + hs k 1) = q + hs k 1 := IntWalk.i64_in _ (by omega)
      have d4 : IntKind.i16.wrap (minQ (hs k 2) (q + hs k 1)) = minQ (hs k 2) (q + hs k 1) := IntWalk.i16_in _ (by omega)
      have Hv := Lib.hid hv
      have Hmin := Lib.hid (fun W => l00MinQ_any (hs k 2) (q + hs k 1) W)
      clear hv hvb hq c0 c1 em
      generalize minQ (hs k 2) (q + hs k 1) = v at *
      have lc : (k : Int) < cL := by omega
      go_wp2
      have tk_r0 : True := trivial; have tk_r2 : True := trivial
      ((try simp only [Act.put, List.setIfInBounds_toArray, List.set_cons_succ, List.set_cons_zero]); refine region_head_mem (m := 25) (by kernel_rfl) (by kernel_rfl) hM ?_; clear hM; simp only [List.take_succ_cons, List.take_zero, List.drop_succ_cons, List.drop_zero]; (repeat (first | go_big_quiet_skip | (go_big_quiet_want; first | (have _t := tk_r2; (refine quiet_get1 _ _ rfl _ _ rfl 0 rfl (cellTab _ rfl) (by omega) _ (e2) ?_; (simp only [Act.put, List.setIfInBounds_toArray, List.set_cons_succ, List.set_cons_zero]); go_big_quiet_on); clear tk_r2) | (have _t := tk_r0; (refine quiet_get1 _ _ rfl _ _ rfl 0 rfl (cellTab _ rfl) (by omega) _ (e0) ?_; (simp only [Act.put, List.setIfInBounds_toArray, List.set_cons_succ, List.set_cons_zero]); go_big_quiet_on); clear tk_r0) | (refine quiet_get1 _ _ rfl _ _ rfl 0 rfl (cellTab _ rfl) (by omega) _ (e1) ?_; (simp only [Act.put, List.setIfInBounds_toArray, List.set_cons_succ, List.set_cons_zero]); go_big_quiet_on) | (refine quiet_call ?_; apply Exists.intro; apply Exists.intro; apply Exists.intro; refine ⟨fun W => ?_, fun W hM => ?_, ?_⟩; (go_simp; exact ⟨rfl, rfl⟩); (with_reducible exact Hmin.out W); (simp only [Act.put, List.setIfInBounds_toArray, List.set_cons_succ, List.set_cons_zero]); go_big_quiet_on) | (refine quiet_val ?_; apply Exists.intro; refine ⟨fun W => ?_, ?_⟩; (go_simp; (try simp only [l2, d0, d1, d2, d3, d4, if_true, Bool.false_eq_true, if_false]); rfl); (simp only [Act.put, List.setIfInBounds_toArray, List.set_cons_succ, List.set_cons_zero]); go_big_quiet_on)))); (with_reducible refine wpQuiet_nil ?_); intro W' hM)
      go_wp2_with (first | (refine wpList_set1 rfl _ _ _ rfl _ _ rfl _ rfl ?_ hM 0 rfl (by assumption) (cellTab _ rfl) (by omega) ?_; (first | rfl | exact h1 _); intro W' hM'; clear hM; have hM := hM'; clear hM'; simp [List.set, Act.eval] at hM))
      go_roundw
      case rel => exact ⟨k + 1, by omega, by go_num, _, Lib.hid (mix_cells hG.out Hv.out), hM⟩
      case measure => simp [intOf]; omega
    · obtain rfl : k = n := by omega
      go_wp2
      go_ret
      exact ⟨bL, cL, G, rfl, hbL, hcL, mix_all hG.out, hM.at0, hM.below⟩
end Go.Proofs.YtbbododeglkghaaDoor

/-
  spec's search for a plan, (*l07Search).from, by contract.
-/
namespace Go.Proofs.YtbbododeglkghaaDoor
open Go Go.RowKit Go.BigFrame Go.Deep

section
variable {w : Base} {L : Blocks} {ops : Array Oper} {rest : List Oper} {o : Oper} {a : Act} {W : World} {Q : Exit → Act → World → Prop}
theorem wpList_cat00 (hgd : o.guard = none) (s x : Operand) (t : TypeId) (ho : o.op = .call { callee := .builtin .append, args := #[s, x], argTypes := #[t, t] })
    (e : TypeId) (m : Nat) (hu : Tryd.prog.underlying t = some (.slice e)) (hz : (Tryd.prog.info? e).map (fun i => i.size) = some m)
    (b0 : Nat) (hs : a.eval s = .slice (some ⟨b0, 0, none⟩) 0 0) (bn n cn : Nat) (hx : a.eval x = .slice (some ⟨bn, 0, none⟩) n cn) (hn0 : n = 0)
    (h : wpList Tryd.prog ops Q rest (a.put o.dst (.slice (some ⟨b0, 0, none⟩) 0 0)) W) : wpList Tryd.prog ops Q (o :: rest) a W := by
  subst hn0
  obtain ⟨i, hi, hq⟩ := Option.map_eq_some_iff.1 hz
  refine wpList_plain hgd fun J hJ => ?_
  have hr := run_append_nothing (P := Tryd.prog) W t t o.type e i hu hi (some ⟨b0, 0, none⟩) 0 0 (Nat.le_refl _) (.slice (some ⟨bn, 0, none⟩) 0 cn) ⟨.inl ⟨e, hu⟩, fun w' => rfl, by simp [Builtin.firstCells, loadCells, loadCellsFrom], by simp [Builtin.firstCells, loadCells, loadCellsFrom], by simp, by simp⟩
  unfold Oper.wp execOp
  simp only [ho, resolve, invoke, builtin, Sem.run_bind, Sem.run_pure, Result.andThen_ok, List.map_toArray, List.map_cons, List.map_nil, hs, hx, hr]
  exact hJ _ _ h
end
/-- A search's cells. -/
def srchS (need : Int) (D B t : Nat) (o : Bool) : Nat → Value := fun k => if k = 0 then .int .i64 need else if k = 1 then .int .i64 (D : Int) else if k = 2 then .int .i64 (B : Int) else if k = 3 then .int .i64 (t : Int) else .bool o
theorem srchS_tick (need : Int) (D B t : Nat) (o : Bool) : ∀ k, k < 5 → upd (srchS need D B t o) 3 (.int .i64 ((t : Int) + 1)) k = srchS need D B (t + 1) o k := fun k hk => by
  rcases (show k = 0 ∨ k = 1 ∨ k = 2 ∨ k = 3 ∨ k = 4 by omega) with rfl | rfl | rfl | rfl | rfl <;> rfl
theorem srchS_over (need : Int) (D B t : Nat) (o : Bool) : ∀ k, k < 5 → upd (srchS need D B t o) 4 (.bool true) k = srchS need D B t true k := fun k hk => by
  rcases (show k = 0 ∨ k = 1 ∨ k = 2 ∨ k = 3 ∨ k = 4 by omega) with rfl | rfl | rfl | rfl | rfl <;> rfl
def NotPoorS (a b : Int) : Prop := ¬ a < b
def NotSpentS (a b : Nat) : Prop := ¬ a = b
/-- A list of numbers, somewhere new. -/
def HasI (w : World) (bs : Nat) (l : List Nat) (v : Value) (W' : World) : Prop := ∃ b c N F, v = .slice (some ⟨b, 0, none⟩) l.length c ∧ bs ≠ b ∧ w.heap.size ≤ b ∧ l.length ≤ N ∧ (∀ j, j < l.length → F j = vI (natI l) j) ∧ At W' b N F
def FromR (w : World) (K : Blocks) (bs : Nat) (need : Int) (D B : Nat) (acc : List Nat) (r : Fnd) (e : Ending) (W' : World) : Prop :=
  (∃ p t' b' v, r = (some p, t', b') ∧ e = .returned (.tuple #[v, .bool true]) ∧ HasI w bs (acc ++ p) v W' ∧ Mem w ((bs, 5, srchS need D B t' false) :: K) W') ∨
  (∃ t' v, r = (none, t', true) ∧ e = .returned (.tuple #[v, .bool false]) ∧ Mem w ((bs, 5, srchS need D B t' true) :: K) W') ∨
  (∃ t' v, r = (none, t', false) ∧ e = .returned (.tuple #[v, .bool false]) ∧ Mem w ((bs, 5, srchS need D B t' false) :: K) W')

set_option maxRecDepth 100000 in
set_option maxHeartbeats 16000000 in
theorem from_any (w : World) (need : Int) (hd : 1 ≤ need ∧ need ≤ 1000) (D B : Nat) (hD : D ≤ 30) (hB : B ≤ 20000) (n : Nat) (hn1 : 1 ≤ n) (hn6 : n ≤ 6) (bs : Nat) (hbs : w.heap.size ≤ bs) :
    ∀ (d : Nat) (acc : List Nat) (la : Nat) (_ : acc.length = la) (_ : la + d = D) (hs : Nat → Nat → Int) (_ : ∀ i, i < n → meadB (hs i) = true) (t : Nat) (_ : t ≤ B) (bl N c : Nat) (F : Nat → Value) (_ : n * 3 ≤ N) (_ : ∀ j, j < n * 3 → F j = sMeadow hs j)
      (ba Na ca : Nat) (Fa : Nat → Value) (_ : w.heap.size ≤ ba) (_ : la ≤ ca) (_ : la ≤ Na) (_ : ∀ j, j < la → Fa j = vI (natI acc) j) (K : Blocks) (W : World) (_ : Mem w ((bs, 5, srchS need D B t false) :: (ba, Na, Fa) :: (bl, N, F) :: K) W),
      Calls Tryd.prog 77 #[.pointer (some ⟨bs, 0, none⟩), .slice (some ⟨bl, 0, none⟩) n c, .slice (some ⟨ba, 0, none⟩) la ca] W (FromR w ((ba, Na, Fa) :: (bl, N, F) :: K) bs need D B acc (goS need B (fun _ => List.range n) d hs t)) := by
  intro d
  induction d with
  | zero =>
    intro acc la hla hacc hs _ t _ bl N c F _ _ ba Na ca Fa hba hca hNa hFa K W hM
    have e1 : srchS need D B t false 1 = .int .i64 (la : Int) := by rw [show la = D by omega]; rfl
    have Hfa := Lib.hid hFa
    have Hla := Lib.hid hla
    clear hla
    clear hFa hacc
    go_enter Tryd.func77, Tryd.ntmps77
    go_wp2_with (first | (refine wpList_get1 rfl _ _ rfl _ _ rfl hM 0 rfl (cellTab _ rfl) (by omega) _ e1 ?_))
    go_ret2
    exact .inl ⟨[], t, false, _, rfl, rfl, by rw [List.append_nil]; exact ⟨ba, ca, Na, Fa, by rw [Hla.out]; rfl, hM.apart 0 1 _ _ rfl rfl (by omega), hba, by rw [Hla.out]; exact hNa, by rw [Hla.out]; exact Hfa.out, hM.ats 1 _ _ _ rfl⟩, hM⟩
  | succ d ih =>
    intro acc la hla hacc hs hb t ht bl N c F hN hF ba Na ca Fa hba hca hNa hFa K W hM
    have Hb := Lib.hid hb
    have Hf := Lib.hid hF
    have IH := Lib.hid ih
    have Hfa := Lib.hid hFa
    have Hla := Lib.hid hla
    clear hla
    have e1 : srchS need D B t false 1 = .int .i64 (D : Int) := rfl
    have dl : ((la : Int) == (D : Int)) = false := by rw [beq_eq_false_iff_ne]; omega
    have dn : ¬ (la : Int) = (D : Int) := by omega
    have Hacc := Lib.hid hacc
    clear hb hF ih hFa
    obtain ⟨ml, hml⟩ : ∃ ml : List Nat, ml = List.range n := ⟨_, rfl⟩
    have hR : goS need B (fun _ => List.range n) (d + 1) hs t = tryL need B (goS need B (fun _ => List.range n) d) hs (ml.drop 0) t := by rw [hml]; rfl
    rw [hR]
    generalize hr : tryL need B (goS need B (fun _ => List.range n) d) hs (ml.drop 0) t = r
    have Hdr : Hid (∀ k, k < n → ml.drop k = k :: ml.drop (k + 1)) := Lib.hid (fun k hk => by
      rw [hml, List.drop_eq_getElem_cons (by simpa using hk), List.getElem_range])
    have Hend : Hid (ml.drop n = []) := Lib.hid (by rw [hml]; simp)
    clear hR hml hacc
    go_enter Tryd.func77, Tryd.ntmps77
    go_wp2_with (first | (refine wpList_get1 rfl _ _ rfl _ _ rfl hM 0 rfl (cellTab _ rfl) (by omega) _ e1 ?_))
    go_loopw [8] (fun i wr => ∃ k : Nat, k ≤ n ∧ i = .int .i64 k ∧ ∃ t' : Nat, t' ≤ B ∧ Hid (tryL need B (goS need B (fun _ => List.range n) d) hs (ml.drop k) t' = r) ∧ Mem w ((bs, 5, srchS need D B t' false) :: (ba, Na, Fa) :: (bl, N, F) :: K) wr) (fun i _ => n - (intOf i).toNat)
    case atStart => exact ⟨0, by omega, rfl, t, ht, Lib.hid hr, hM⟩
    case round =>
      clear hM hr e1 ht t dl dn
      obtain ⟨k, hk, rfl, t, ht, hr, hM⟩ := hrel
      by_cases hlt : k < n
      · have l2 : (k : Int) < n := by omega
        have Hd : Hid (ml.drop k = k :: ml.drop (k + 1)) := Lib.hid (Hdr.out k hlt)
        have em : F (k * 3) = .int .i16 (hs k 0) := by rw [Hf.out _ (by omega)]; exact sMeadow_row _ k 0 (by omega)
        have hmb := meadB_iff (Hb.out k hlt)
        have cm : IntKind.i64.wrap (hs k 0) = hs k 0 := IntWalk.i64_in _ (by omega)
        have e0 : srchS need D B t false 0 = .int .i64 need := rfl
        have e2 : srchS need D B t false 2 = .int .i64 (B : Int) := rfl
        have e3 : srchS need D B t false 3 = .int .i64 (t : Int) := rfl
        clear hmb
        go_wp2
        by_cases hp : hs k 0 < need
        · have Hr : Hid (tryL need B (goS need B (fun _ => List.range n) d) hs (ml.drop (k + 1)) t = r) := Lib.hid (by rw [← hr.out, Hd.out, tryL_poor hp])
          have tk_r0 : True := trivial
          ((try simp only [Act.put, List.setIfInBounds_toArray, List.set_cons_succ, List.set_cons_zero]); refine wp_region_mem (by kernel_rfl) (by kernel_rfl) hM ?_; clear hM; (repeat (first | go_big_quiet_skip | (go_big_quiet_want; first | (have _t := tk_r0; (refine quiet_get1 _ _ rfl _ _ rfl 2 rfl (cellTab _ rfl) (by omega) _ (em) ?_; (simp only [Act.put, List.setIfInBounds_toArray, List.set_cons_succ, List.set_cons_zero]); go_big_quiet_on); clear tk_r0) | (refine quiet_get1 _ _ rfl _ _ rfl 0 rfl (cellTab _ rfl) (by omega) _ (e0) ?_; (simp only [Act.put, List.setIfInBounds_toArray, List.set_cons_succ, List.set_cons_zero]); go_big_quiet_on) | (refine quiet_val ?_; apply Exists.intro; refine ⟨fun W => ?_, ?_⟩; (go_simp; (try simp only [l2, cm, hp, if_true, Bool.false_eq_true, if_false]); rfl); (simp only [Act.put, List.setIfInBounds_toArray, List.set_cons_succ, List.set_cons_zero]); go_big_quiet_on)))); (with_reducible refine wpQuiet_nil ?_); intro W' hM)
          go_wp2
          go_roundw
          case rel => exact ⟨k + 1, by omega, by go_num, t, ht, Hr, hM⟩
          case measure => simp [intOf]; omega
        have hp' : need ≤ hs k 0 := by omega
        have Hp : NotPoorS (hs k 0) need := hp
        clear hp
        have tk_r0 : True := trivial
        ((try simp only [Act.put, List.setIfInBounds_toArray, List.set_cons_succ, List.set_cons_zero]); refine wp_region_mem (by kernel_rfl) (by kernel_rfl) hM ?_; clear hM; (repeat (first | go_big_quiet_skip | (go_big_quiet_want; first | (have _t := tk_r0; (refine quiet_get1 _ _ rfl _ _ rfl 2 rfl (cellTab _ rfl) (by omega) _ (em) ?_; (simp only [Act.put, List.setIfInBounds_toArray, List.set_cons_succ, List.set_cons_zero]); go_big_quiet_on); clear tk_r0) | (refine quiet_get1 _ _ rfl _ _ rfl 0 rfl (cellTab _ rfl) (by omega) _ (e0) ?_; (simp only [Act.put, List.setIfInBounds_toArray, List.set_cons_succ, List.set_cons_zero]); go_big_quiet_on) | (refine quiet_val ?_; apply Exists.intro; refine ⟨fun W => ?_, ?_⟩; (go_simp; (try simp only [l2, cm, hp', if_true, Bool.false_eq_true, if_false]); rfl); (simp only [Act.put, List.setIfInBounds_toArray, List.set_cons_succ, List.set_cons_zero]); go_big_quiet_on)))); (with_reducible refine wpQuiet_nil ?_); intro W' hM)
        go_wp2
        by_cases ht2 : t = B
        · have Hr : Hid (r = (none, t, true)) := Lib.hid (by rw [← hr.out, Hd.out, tryL_spent Hp ht2])
          have tb : ((t : Int) == (B : Int)) = true := by rw [beq_iff_eq]; omega
          have Hov := Lib.hid (srchS_over need D B t false)
          clear ht2
          ((try simp only [Act.put, List.setIfInBounds_toArray, List.set_cons_succ, List.set_cons_zero]); refine wp_region_mem (by kernel_rfl) (by kernel_rfl) hM ?_; clear hM; (repeat (first | go_big_quiet_skip | (go_big_quiet_want; first | (have _t := trivial; (refine quiet_get1 _ _ rfl _ _ rfl 0 rfl (cellTab _ rfl) (by omega) _ (e3) ?_; (simp only [Act.put, List.setIfInBounds_toArray, List.set_cons_succ, List.set_cons_zero]); go_big_quiet_on)) | (refine quiet_get1 _ _ rfl _ _ rfl 0 rfl (cellTab _ rfl) (by omega) _ (e2) ?_; (simp only [Act.put, List.setIfInBounds_toArray, List.set_cons_succ, List.set_cons_zero]); go_big_quiet_on) | (refine quiet_val ?_; apply Exists.intro; refine ⟨fun W => ?_, ?_⟩; (go_simp; (try simp only [tb, if_true, Bool.false_eq_true, if_false]); rfl); (simp only [Act.put, List.setIfInBounds_toArray, List.set_cons_succ, List.set_cons_zero]); go_big_quiet_on)))); (with_reducible refine wpQuiet_nil ?_); intro W' hM)
          go_wp2_with (first | (refine wpList_set1 rfl _ _ _ rfl _ _ rfl _ rfl rfl hM 0 rfl hbs (cellTab _ rfl) (by omega) ?_; intro W' hM'; clear hM; have hM := hM'.re 0 rfl _ Hov.out; clear hM'; simp only [List.set] at hM))
          go_ret2
          exact .inr (.inl ⟨t, _, Hr.out, rfl, hM⟩)
        have tb : ((t : Int) == (B : Int)) = false := by rw [beq_eq_false_iff_ne]; omega
        have hw : IntKind.i64.wrap ((t : Int) + 1) = (t : Int) + 1 := IntWalk.i64_in _ (by omega)
        have ht1 : t + 1 ≤ B := by omega
        have Ht2 : NotSpentS t B := ht2
        have Htick := Lib.hid (srchS_tick need D B t false)
        have Hbd := Lib.hid (fun i hi => dayM_ok (i := i) (m := k) Hb.out hd hp' hi)
        clear ht2
        ((try simp only [Act.put, List.setIfInBounds_toArray, List.set_cons_succ, List.set_cons_zero]); refine wp_region_mem (by kernel_rfl) (by kernel_rfl) hM ?_; clear hM; (repeat (first | go_big_quiet_skip | (go_big_quiet_want; first | (have _t := trivial; (refine quiet_get1 _ _ rfl _ _ rfl 0 rfl (cellTab _ rfl) (by omega) _ (e3) ?_; (simp only [Act.put, List.setIfInBounds_toArray, List.set_cons_succ, List.set_cons_zero]); go_big_quiet_on)) | (refine quiet_get1 _ _ rfl _ _ rfl 0 rfl (cellTab _ rfl) (by omega) _ (e2) ?_; (simp only [Act.put, List.setIfInBounds_toArray, List.set_cons_succ, List.set_cons_zero]); go_big_quiet_on) | (refine quiet_val ?_; apply Exists.intro; refine ⟨fun W => ?_, ?_⟩; (go_simp; (try simp only [tb, if_true, Bool.false_eq_true, if_false]); rfl); (simp only [Act.put, List.setIfInBounds_toArray, List.set_cons_succ, List.set_cons_zero]); go_big_quiet_on)))); (with_reducible refine wpQuiet_nil ?_); intro W' hM)
        cases hgo : goS need B (fun _ => List.range n) d (dayM hs need k) (t + 1) with
        | mk o q =>
          obtain ⟨t', b⟩ := q
          have ht' : t' ≤ B := by
            have := goS_le need B (fun _ => List.range n) d (dayM hs need k) (t + 1) ht1
            rw [hgo] at this; exact this
          have Hgo := Lib.hid hgo
          have Hsn : Hid (natI (acc ++ [k]) = natI acc ++ [(k : Int)]) := Lib.hid (natI_snoc acc k)
          have Hln : Hid (la + 1 + d = D ∧ (acc ++ [k]).length = la + 1) := Lib.hid (by have := Hacc.out; have := Hla.out; rw [List.length_append, List.length_singleton]; omega)
          have Hal : Hid ((natI acc).length = la) := Lib.hid (by rw [natI_len]; exact Hla.out)
          have hk2 : la ≤ 1048576 := by have := Hacc.out; omega
          clear hgo
          by_cases hac : la = 0
          · have hac0 := Lib.hid hac
            have Hnew : Hid (∀ j, j < 1 → (fun _ => Value.int .i64 (k : Int)) j = vI (natI (acc ++ [k])) (0 * 1 + j)) := Lib.hid (fun j hj => by
              have := vI_new (natI acc) (k : Int) hj
              rw [Hal.out, hac0.out] at this
              rw [Hsn.out]; exact this)
            have Hl1 : Hid (1 + d = D ∧ (acc ++ [k]).length = 1) := Lib.hid (by have := Hln.out; have := hac0.out; omega)
            clear hac
            have tk_s1 : True := trivial; have tk_u1 : True := trivial; have tk_l1 : True := trivial; have tk_p1 : True := trivial
            go_wp2_with (first | (refine wpList_get1 rfl _ _ rfl _ _ rfl hM 0 rfl (cellTab _ rfl) (by omega) _ e3 ?_) | (have _t := tk_u1; refine wpList_set1 rfl _ _ _ rfl _ _ rfl _ rfl rfl hM 0 rfl hbs (cellTab _ rfl) (by omega) ?_; intro W' hM'; clear hM tk_u1; have hM := hM'.re 0 rfl _ Htick.out; clear hM'; simp only [List.set] at hM; have e0 : srchS need D B (t + 1) false 0 = .int .i64 need := rfl) | (refine wpList_get1 rfl _ _ rfl _ _ rfl hM 0 rfl (cellTab _ rfl) (by omega) _ e0 ?_) | (go_at_call 44; (with_reducible refine (l07Day_any bl n c N F hs hn1 hn6 hN Hf.out Hb.out need hd k hlt hp' _ (hM.ats 2 _ _ _ rfl)).mono ?_); rintro e W' ⟨bN, cN, FN, rfl, hbN, hcN, hFN, hAN, hbl⟩; have hM' := (hM.freshQ hbl hAN hbN).swap; clear hM hbl hAN; have hM := hM'; clear hM') | (have _t := tk_s1; refine wpList_slice0 rfl _ _ rfl _ int64s_underR int64_info0 hM ?_; intro s1 W' hs1 hM'; clear hM tk_s1; have hM := hM'; clear hM') | (refine wpList_cat00 rfl _ _ _ rfl _ 1 int64s_underR int64_info0 s1 rfl ba la ca rfl hac0.out ?_) | (have _t := tk_l1; refine wpList_lit1 rfl _ _ _ rfl (.int .i64 (k : Int)) rfl rfl _ int64s_underR int64_infoR hM ?_; intro l1 W' hl1 hM'; clear hM tk_l1; have hM := hM'; clear hM') | (have _t := tk_p1; refine wpList_push1 rfl _ _ _ rfl _ 1 _ _ int64s_underR infoInt64S rfl (by omega) s1 0 0 _ rfl hs1 (Nat.le_refl _) (by omega) _ _ rfl i64_one hM (vI (natI (acc ++ [k]))) (fun j hj => absurd hj (by omega)) Hnew.out ?_; intro bL cL FL W' hbL hcL hFL hM'; clear hM tk_p1; have hM := hM'; clear hM'))
            have hM1 := hM.swap
            clear hM
            have hM := hM1
            clear hM1
            go_at_call 77
            refine (IH.out (acc ++ [k]) 1 Hl1.out.2 Hl1.out.1 (dayM hs need k) Hbd.out (t + 1) ht1 bN (cN * 3) cN FN (by omega) hFN bL (cL * 1) cL FL hbL hcL (by rw [Nat.mul_one]; exact hcL) (fun j hj => hFL j (by omega)) ((ba, Na, Fa) :: (bl, N, F) :: K) _ hM).mono ?_
            clear hM
            rintro e W2 (⟨p, t2, b2, v, hq, rfl, hv, hM2⟩ | ⟨t2, v, hq, rfl, hM2⟩ | ⟨t2, v, hq, rfl, hM2⟩)
            · rw [Hgo.out] at hq
              simp only [Prod.mk.injEq] at hq
              obtain ⟨rfl, rfl, rfl⟩ := hq
              have Hr : Hid (r = (some (k :: p), t', false)) := Lib.hid (by rw [← hr.out, Hd.out, tryL_some Hp Ht2 Hgo.out])
              have Hv : Hid (HasI w bs (acc ++ (k :: p)) v W2) := Lib.hid (by rw [show acc ++ (k :: p) = acc ++ [k] ++ p by simp]; exact hv)
              clear hv
              have hM := hM2.skip.skip
              clear hM2
              go_wp2
              go_ret2
              exact .inl ⟨k :: p, t', false, v, Hr.out, rfl, Hv.out, hM⟩
            · rw [Hgo.out] at hq
              simp only [Prod.mk.injEq] at hq
              obtain ⟨rfl, rfl, rfl⟩ := hq
              have Hr : Hid (r = (none, t', true)) := Lib.hid (by rw [← hr.out, Hd.out, tryL_over Hp Ht2 Hgo.out])
              have e4 : srchS need D B t' true 4 = .bool true := rfl
              have hM := hM2.skip.skip
              clear hM2
              go_wp2_with (first | (refine wpList_gget1 ?_ _ _ rfl _ _ rfl hM 0 rfl (cellTab _ rfl) (by omega) _ e4 ?_; kernel_rfl))
              go_ret2
              exact .inr (.inl ⟨t', v, Hr.out, rfl, hM⟩)
            · rw [Hgo.out] at hq
              simp only [Prod.mk.injEq] at hq
              obtain ⟨rfl, rfl, rfl⟩ := hq
              have Hr : Hid (tryL need B (goS need B (fun _ => List.range n) d) hs (ml.drop (k + 1)) t' = r) := Lib.hid (by rw [← hr.out, Hd.out, tryL_next Hp Ht2 Hgo.out])
              have e4 : srchS need D B t' false 4 = .bool false := rfl
              have hM := hM2.skip.skip
              clear hM2
              go_wp2_with (first | (refine wpList_gget1 ?_ _ _ rfl _ _ rfl hM 0 rfl (cellTab _ rfl) (by omega) _ e4 ?_; kernel_rfl))
              go_roundw
              case rel => exact ⟨k + 1, by omega, by go_num, t', ht', Hr, hM⟩
              case measure => simp [intOf]; omega
          · have hac1 : 1 ≤ la := by omega
            have hNa1 : la * 1 ≤ Na := by omega
            have Hold : Hid (∀ j, j < la * 1 → vI (natI acc) j = vI (natI (acc ++ [k])) j) := Lib.hid (fun j hj => by rw [Hsn.out]; exact vI_old _ _ (by rw [Hal.out]; exact hj))
            have Hnew : Hid (∀ j, j < 1 → (fun _ => Value.int .i64 (k : Int)) j = vI (natI (acc ++ [k])) (la * 1 + j)) := Lib.hid (fun j hj => by
              have := vI_new (natI acc) (k : Int) hj
              rw [Hal.out] at this
              rw [Hsn.out]; exact this)
            clear hac
            have tk_s1 : True := trivial; have tk_u1 : True := trivial; have tk_l1 : True := trivial; have tk_p1 : True := trivial
            go_wp2_with (first | (refine wpList_get1 rfl _ _ rfl _ _ rfl hM 0 rfl (cellTab _ rfl) (by omega) _ e3 ?_) | (have _t := tk_u1; refine wpList_set1 rfl _ _ _ rfl _ _ rfl _ rfl rfl hM 0 rfl hbs (cellTab _ rfl) (by omega) ?_; intro W' hM'; clear hM tk_u1; have hM := hM'.re 0 rfl _ Htick.out; clear hM'; simp only [List.set] at hM; have e0 : srchS need D B (t + 1) false 0 = .int .i64 need := rfl) | (refine wpList_get1 rfl _ _ rfl _ _ rfl hM 0 rfl (cellTab _ rfl) (by omega) _ e0 ?_) | (go_at_call 44; (with_reducible refine (l07Day_any bl n c N F hs hn1 hn6 hN Hf.out Hb.out need hd k hlt hp' _ (hM.ats 2 _ _ _ rfl)).mono ?_); rintro e W' ⟨bN, cN, FN, rfl, hbN, hcN, hFN, hAN, hbl⟩; have hM' := (hM.freshQ hbl hAN hbN).swap; clear hM hbl hAN; have hM := hM'; clear hM') | (have _t := tk_s1; refine wpList_slice0 rfl _ _ rfl _ int64s_underR int64_info0 hM ?_; intro s1 W' hs1 hM'; clear hM tk_s1; have hM := hM'; clear hM') | (refine wpList_cat0 rfl _ _ _ rfl _ 1 _ _ int64s_underR infoInt64S rfl (by omega) s1 rfl ba la ca rfl hac1 hk2 hM 3 rfl hNa1 ?_; intro bC cC FC W' hbC hcC hFC hM'; clear hM; have hM := hM'; clear hM') | (have _t := tk_l1; refine wpList_lit1 rfl _ _ _ rfl (.int .i64 (k : Int)) rfl rfl _ int64s_underR int64_infoR hM ?_; intro l1 W' hl1 hM'; clear hM tk_l1; have hM := hM'; clear hM') | (have _t := tk_p1; refine wpList_push1 rfl _ _ _ rfl _ 1 _ _ int64s_underR infoInt64S rfl (by omega) bC la cC FC rfl hbC hcC hk2 _ _ rfl i64_one hM (vI (natI (acc ++ [k]))) (fun j hj => by rw [hFC j hj, Hfa.out j (by omega)]; exact Hold.out j hj) Hnew.out ?_; intro bL cL FL W' hbL hcL hFL hM'; clear hM tk_p1; have hM := hM'; clear hM'))
            have hM1 := hM.skip.swap
            clear hM
            have hM := hM1
            clear hM1
            go_at_call 77
            refine (IH.out (acc ++ [k]) (la + 1) Hln.out.2 Hln.out.1 (dayM hs need k) Hbd.out (t + 1) ht1 bN (cN * 3) cN FN (by omega) hFN bL (cL * 1) cL FL hbL hcL (by rw [Nat.mul_one]; exact hcL) (fun j hj => hFL j (by omega)) ((ba, Na, Fa) :: (bl, N, F) :: K) _ hM).mono ?_
            clear hM
            rintro e W2 (⟨p, t2, b2, v, hq, rfl, hv, hM2⟩ | ⟨t2, v, hq, rfl, hM2⟩ | ⟨t2, v, hq, rfl, hM2⟩)
            · rw [Hgo.out] at hq
              simp only [Prod.mk.injEq] at hq
              obtain ⟨rfl, rfl, rfl⟩ := hq
              have Hr : Hid (r = (some (k :: p), t', false)) := Lib.hid (by rw [← hr.out, Hd.out, tryL_some Hp Ht2 Hgo.out])
              have Hv : Hid (HasI w bs (acc ++ (k :: p)) v W2) := Lib.hid (by rw [show acc ++ (k :: p) = acc ++ [k] ++ p by simp]; exact hv)
              clear hv
              have hM := hM2.skip.skip
              clear hM2
              go_wp2
              go_ret2
              exact .inl ⟨k :: p, t', false, v, Hr.out, rfl, Hv.out, hM⟩
            · rw [Hgo.out] at hq
              simp only [Prod.mk.injEq] at hq
              obtain ⟨rfl, rfl, rfl⟩ := hq
              have Hr : Hid (r = (none, t', true)) := Lib.hid (by rw [← hr.out, Hd.out, tryL_over Hp Ht2 Hgo.out])
              have e4 : srchS need D B t' true 4 = .bool true := rfl
              have hM := hM2.skip.skip
              clear hM2
              go_wp2_with (first | (refine wpList_gget1 ?_ _ _ rfl _ _ rfl hM 0 rfl (cellTab _ rfl) (by omega) _ e4 ?_; kernel_rfl))
              go_ret2
              exact .inr (.inl ⟨t', v, Hr.out, rfl, hM⟩)
            · rw [Hgo.out] at hq
              simp only [Prod.mk.injEq] at hq
              obtain ⟨rfl, rfl, rfl⟩ := hq
              have Hr : Hid (tryL need B (goS need B (fun _ => List.range n) d) hs (ml.drop (k + 1)) t' = r) := Lib.hid (by rw [← hr.out, Hd.out, tryL_next Hp Ht2 Hgo.out])
              have e4 : srchS need D B t' false 4 = .bool false := rfl
              have hM := hM2.skip.skip
              clear hM2
              go_wp2_with (first | (refine wpList_gget1 ?_ _ _ rfl _ _ rfl hM 0 rfl (cellTab _ rfl) (by omega) _ e4 ?_; kernel_rfl))
              go_roundw
              case rel => exact ⟨k + 1, by omega, by go_num, t', ht', Hr, hM⟩
              case measure => simp [intOf]; omega
      · obtain rfl : k = n := by omega
        have Hr : Hid (r = (none, t, false)) := Lib.hid (by rw [← hr.out, Hend.out]; rfl)
        go_wp2
        go_ret2
        exact .inr (.inr ⟨t, _, Hr.out, rfl, hM⟩)
end Go.Proofs.YtbbododeglkghaaDoor

