/-
  spec.RestsOf and impl.RestsOf by contracts.
-/
import Derived.Test.YtbbododeglkghaaDoorPlan
import Derived.Test.YtbbododeglkghaaDoorDayIn
import Derived.Test.YtbbododeglkghaaDoorGivesR
import Derived.Test.YtbbododeglkghaaDoorLit1
import Derived.Test.YtbbododeglkghaaDoorNum
namespace Go.Proofs.YtbbododeglkghaaDoor
open Go Go.RowKit Go.BigFrame

/-- The last of the first i days in the m-th meadow, -1 if there is none; the rests. -/
def lastR (ys : Nat → Int) (m : Int) : Nat → Int
  | 0 => -1
  | i + 1 => if ys i = m then i else lastR ys m i
def restR (ys : Nat → Int) (m : Int) : Nat → List Int
  | 0 => []
  | i + 1 => if ys i = m ∧ 0 ≤ lastR ys m i then restR ys m i ++ [i - lastR ys m i - 1] else restR ys m i
theorem lastR_in (ys : Nat → Int) (m : Int) : ∀ i, -1 ≤ lastR ys m i ∧ lastR ys m i < i
  | 0 => by simp [lastR]
  | i + 1 => by
    have := lastR_in ys m i
    simp only [lastR]
    split <;> omega
theorem restR_len (ys : Nat → Int) (m : Int) : ∀ i, (restR ys m i).length ≤ i
  | 0 => by simp [restR]
  | i + 1 => by
    have := restR_len ys m i
    simp only [restR]
    split
    · rw [List.length_append, List.length_singleton]; omega
    · omega
/-- A list of numbers as cells. -/
def numsF (l : List Int) : Nat → Int := fun j => l.getD j 0
def vI (l : List Int) : Nat → Value := vInt64S (numsF l)
theorem vI_old (l : List Int) (x : Int) {j : Nat} (h : j < l.length * 1) : vI l j = vI (l ++ [x]) j := by
  simp only [vI, vInt64S, numsF, List.getD_eq_getElem?_getD]
  rw [List.getElem?_append_left (by omega)]
theorem vI_new (l : List Int) (x : Int) {j : Nat} (h : j < 1) : (fun _ => Value.int .i64 x) j = vI (l ++ [x]) (l.length * 1 + j) := by
  obtain rfl : j = 0 := by omega
  simp [vI, vInt64S, numsF, List.getD_eq_getElem?_getD]
theorem i64_one {x : Int} : ∀ k, k < 1 → ((fun _ => Value.int .i64 x) k).oneCell' = true := fun _ _ => rfl
theorem int64s_underR : Tryd.prog.underlying 31 = some (.slice 2) := Tryd.underlying31
theorem int64_infoR : (Tryd.prog.info? 2).map (fun i => (i.size, i.zero)) = some (1, some (.int .i64 0)) := by kernel_rfl
theorem int64_info0 : (Tryd.prog.info? 2).map (fun i => i.size) = some 1 := by kernel_rfl
def restB (p : Nat) (ys : Nat → Int) (m : Int) : Bool := planB 6 p ys && inB 0 5 m
def restL (p : Nat) (ys : Nat → Int) (m : Int) : List Int := if restB p ys m then restR ys m p else []
def restC (p : Nat) (ys : Nat → Int) (m : Int) : Int := if restB p ys m then 0 else 2
/-- What comes of it. -/
def GivesI64 (l : List Int) (cc : Int) (w : World) (e : Ending) (w' : World) : Prop := GivesR 1 l.length (vI l) cc w e w'
theorem Lst.newL {w : World} {m n : Nat} {v : Value} {R : Nat → Value} {W : World} (h : Lst w [] m v n R W) : NewL m n R w v W := by
  rcases h with ⟨h1, h2, h⟩ | ⟨b, c, F, h1, h2, h3, h4, h⟩
  · exact .inl ⟨h2, ⟨none, 0, h1⟩, h.below⟩
  · exact .inr ⟨b, c, _, F, h1, h2, Nat.mul_le_mul_right _ h3, h4, h.at0, h.below⟩
theorem rest_no {p : Nat} {ys : Nat → Int} {m : Int} (h : restB p ys m = false) : restL p ys m = [] ∧ restC p ys m = 2 := by simp [restL, restC, h]
theorem rest_yes {p : Nat} {ys : Nat → Int} {m : Int} (h : restB p ys m = true) : restL p ys m = restR ys m p ∧ restC p ys m = 0 := by simp [restL, restC, h]
theorem givesI_none {p : Nat} {ys : Nat → Int} {m : Int} (h : restB p ys m = false) {w W : World} (hb : Below w.heap.size w W) {a : Option Addr} {c : Nat} : GivesI64 (restL p ys m) (restC p ys m) w (.returned (.tuple #[.slice a 0 c, .int .i64 2])) W := by
  rw [(rest_no h).1, (rest_no h).2]
  exact ⟨_, rfl, .inl ⟨rfl, ⟨a, c, rfl⟩, hb⟩⟩
theorem givesI_some {p : Nat} {ys : Nat → Int} {m : Int} (h : restB p ys m = true) {w W : World} {v : Value} (hL : Lst w [] 1 v (restR ys m p).length (vI (restR ys m p)) W) : GivesI64 (restL p ys m) (restC p ys m) w (.returned (.tuple #[v, .int .i64 0])) W := by
  rw [(rest_yes h).1, (rest_yes h).2]
  exact ⟨v, rfl, hL.newL⟩

set_option maxRecDepth 100000 in
set_option maxHeartbeats 8000000 in
theorem specRestsOf_l (bp p cp : Nat) (ys : Nat → Int) (hp : p ≤ 1048576) (m : Int) (w : World) (hP : At w bp p (vInt64S ys)) :
    Calls Tryd.prog 31 #[.slice (some ⟨bp, 0, none⟩) p cp, .int .i64 m] w (GivesI64 (restL p ys m) (restC p ys m) w) := by
  have hM : Mem w [(bp, p, vInt64S ys)] w := (Mem.nil w).old hP (fun i p h => by simp at h)
  clear hP
  have six : ((6 : Nat) : Int) - 1 = 5 := by decide
  by_cases h1 : p ≤ 30 ∧ inB 0 5 m = true
  case neg =>
    have hb : restB p ys m = false := by
      unfold restB planB
      by_cases h2 : p ≤ 30
      · have : inB 0 5 m = false := by
          cases h3 : inB 0 5 m
          · rfl
          · exact absurd ⟨h2, h3⟩ h1
        rw [this, Bool.and_false]
      · rw [decide_eq_false h2]; rfl
    have Hb := Lib.hid hb
    rcases (show ¬ p ≤ 30 ∨ (p ≤ 30 ∧ inB 0 5 m = false) by
      by_cases h2 : p ≤ 30
      · refine .inr ⟨h2, ?_⟩
        cases h3 : inB 0 5 m
        · rfl
        · exact absurd ⟨h2, h3⟩ h1
      · exact .inl h2) with h2 | ⟨h2, h3⟩
    all_goals
      first | have d1 : decide ((p : Int) ≤ 30) = false := decide_eq_false (by omega)
            | have d1 : decide ((p : Int) ≤ 30) = true := decide_eq_true (by omega)
      first | have H3 := Lib.hid h3
            | skip
      clear h1 hb
      try clear h3
      have tk_s1 : True := trivial
      go_enter Tryd.func31, Tryd.ntmps31
      go_wp2_with (first | (go_at_call 55; (with_reducible refine (l00In_any m 0 5 _).mono ?_); rintro e W' ⟨rfl, hb'⟩; rw [H3.out]; have hM' := hM.call hb'; clear hM hb'; have hM := hM'; clear hM'))
      go_loopw [6, 7] (fun f i wr => ∃ k : Nat, k ≤ p ∧ f = .bool false ∧ i = .int .i64 k ∧ Mem w [(bp, p, vInt64S ys)] wr) (fun _ i _ => p - (intOf i).toNat)
      case atStart => exact ⟨0, by omega, rfl, rfl, hM⟩
      case round =>
        clear hM
        obtain ⟨k, hk, rfl, rfl, hM⟩ := hrel
        by_cases hlt : k < p
        · have l2 : (k : Int) < p := by omega
          go_wp2
          go_roundw
          case rel => exact ⟨k + 1, by omega, rfl, by go_num, hM⟩
          case measure => simp [intOf]; omega
        · obtain rfl : k = p := by omega
          go_wp2_with (first | (have _t := tk_s1; refine wpList_slice0 rfl _ _ rfl _ int64s_underR int64_info0 hM ?_; intro s1 W' hs1 hM'; clear hM tk_s1; have hM := hM'; clear hM'))
          go_ret2
          exact givesI_none Hb.out hM.below
  have d1 : decide ((p : Int) ≤ 30) = true := decide_eq_true (by omega)
  have hp30 := h1.1
  have H3 := Lib.hid h1.2
  clear h1
  go_enter Tryd.func31, Tryd.ntmps31
  go_wp2_with (first | (go_at_call 55; (with_reducible refine (l00In_any m 0 5 _).mono ?_); rintro e W' ⟨rfl, hb'⟩; rw [H3.out]; have hM' := hM.call hb'; clear hM hb'; have hM := hM'; clear hM'))
  go_loopw [6, 7] (fun f i wr => ∃ k : Nat, k ≤ p ∧ f = .bool (planTo 6 ys k) ∧ i = .int .i64 k ∧ Mem w [(bp, p, vInt64S ys)] wr) (fun _ i _ => p - (intOf i).toNat)
  case atStart => exact ⟨0, by omega, rfl, rfl, hM⟩
  case round =>
    clear hM
    obtain ⟨k, hk, rfl, rfl, hM⟩ := hrel
    by_cases hlt : k < p
    · have l2 : (k : Int) < p := by omega
      have ek : vInt64S ys k = .int .i64 (ys k) := rfl
      have hs := planTo_succ 6 ys k
      rw [six] at hs
      have Hs := Lib.hid hs
      clear hs
      cases hf : planTo 6 ys k
      · have Hn : Hid (planTo 6 ys (k + 1) = false) := Lib.hid (by rw [Hs.out, hf]; rfl)
        go_wp2
        go_roundw
        case rel => exact ⟨k + 1, by omega, congrArg Value.bool Hn.out.symm, by go_num, hM⟩
        case measure => simp [intOf]; omega
      · cases hi : inB 0 5 (ys k)
        all_goals
          have Hi := Lib.hid hi
          have Hn : Hid (planTo 6 ys (k + 1) = inB 0 5 (ys k)) := Lib.hid (by rw [Hs.out, hf]; rfl)
          clear hi
          go_wp2_with (first | (refine wpList_gget1 ?_ _ _ rfl _ _ rfl hM 0 rfl (cellTab _ rfl) (by omega) _ ek ?_; kernel_rfl) | (go_at_call 55; (with_reducible refine (l00In_any (ys k) 0 5 _).mono ?_); rintro e W' ⟨rfl, hb'⟩; rw [Hi.out]; have hM' := hM.call hb'; clear hM hb'; have hM := hM'; clear hM'))
          go_roundw
          case rel => exact ⟨k + 1, by omega, congrArg Value.bool (by rw [Hn.out, Hi.out]), by go_num, hM⟩
          case measure => simp [intOf]; omega
    · obtain rfl : k = p := by omega
      have hr : restB k ys m = planTo 6 ys k := by unfold restB planB; rw [H3.out, decide_eq_true hp30, Bool.and_true, Bool.true_and]
      cases hf : planTo 6 ys k
      · have Hr := Lib.hid (hr.trans hf)
        clear hr
        have tk_s1 : True := trivial
        go_wp2_with (first | (have _t := tk_s1; refine wpList_slice0 rfl _ _ rfl _ int64s_underR int64_info0 hM ?_; intro s1 W' hs1 hM'; clear hM tk_s1; have hM := hM'; clear hM'))
        go_ret2
        exact givesI_none Hr.out hM.below
      have Hr := Lib.hid (hr.trans hf)
      clear hr hf
      have tk_s1 : True := trivial
      go_wp2_with (first | (have _t := tk_s1; refine wpList_slice0 rfl _ _ rfl _ int64s_underR int64_info0 hM ?_; intro s1 W' hs1 hM'; clear hM tk_s1; have hM := hM'; clear hM'))
      go_loopw [8, 9, 10] (fun v l i wr => ∃ q : Nat, q ≤ k ∧ l = .int .i64 (lastR ys m q) ∧ i = .int .i64 q ∧ Lst w [(bp, k, vInt64S ys)] 1 v (restR ys m q).length (vI (restR ys m q)) wr) (fun _ _ i _ => k - (intOf i).toNat)
      case atStart => exact ⟨0, by omega, rfl, rfl, .inr ⟨s1, 0, fun _ => undef, rfl, hs1, Nat.le_refl _, fun j hj => absurd hj (by simp [restR]), hM⟩⟩
      case round =>
        clear hM hk hlt hp six
        obtain ⟨q, hq, rfl, rfl, hL⟩ := hrel
        by_cases hlt : q < k
        · have l2 : (q : Int) < k := by omega
          have hli := lastR_in ys m q
          have hll := restR_len ys m q
          have eqc : wr.cell? ⟨bp, q, none⟩ = some (.int .i64 (ys q)) := (hL.mem.ats 0 _ _ _ rfl).cell (by omega)
          by_cases hm : ys q = m
          · have hb0 : (ys q != m) = false := by simp [hm]
            have Hla : Hid (lastR ys m (q + 1) = q) := Lib.hid (by simp [lastR, hm])
            by_cases h0 : 0 ≤ lastR ys m q
            · have Hre : Hid (restR ys m (q + 1) = restR ys m q ++ [(q : Int) - lastR ys m q - 1]) := Lib.hid (by simp only [restR]; rw [if_pos ⟨hm, h0⟩])
              have d0 : decide (0 ≤ lastR ys m q) = true := decide_eq_true h0
              have n1 : IntKind.i64.wrap ((q : Int) - lastR ys m q) = (q : Int) - lastR ys m q := IntWalk.i64_in _ (by omega)
              have n2 : IntKind.i64.wrap ((q : Int) - lastR ys m q - 1) = (q : Int) - lastR ys m q - 1 := IntWalk.i64_in _ (by omega)
              have hn : (restR ys m q).length ≤ 1048576 := by omega
              clear hm h0 hli hll
              generalize lastR ys m q = la at *
              generalize hx : (q : Int) - la - 1 = x at *
              generalize restR ys m q = rl at *
              have Hnew := Lib.hid (fun j (hj : j < 1) => vI_new rl x hj)
              rcases hL with ⟨rfl, hn0, hM⟩ | ⟨b, c, F, rfl, hbb, hnc, hF, hM⟩
              · have Hq : Hid (∀ j, j < 1 → (fun _ => Value.int .i64 x) j = vI (rl ++ [x]) j) := Lib.hid (fun j hj => by have := Hnew.out j hj; rwa [hn0, Nat.zero_mul, Nat.zero_add] at this)
                have tk_l1 : True := trivial; have tk_p1 : True := trivial
                go_wp2_with (first | (have _t := tk_l1; refine wpList_lit1 rfl _ _ _ rfl (.int .i64 x) (by first | rfl | exact congrArg (Value.int .i64) hx) rfl _ int64s_underR int64_infoR hM ?_; intro l1 W' hl1 hM'; clear hM tk_l1; have hM := hM'; clear hM') | (have _t := tk_p1; refine wpList_push0 rfl _ _ _ rfl _ 1 _ _ int64s_underR infoInt64S rfl (by omega) rfl _ _ rfl hM (vI (rl ++ [x])) Hq.out ?_; intro bL cL FL W' hbL hcL hFL hM'; clear hM tk_p1; have hM := hM'; clear hM'))
                go_roundw
                case rel => exact ⟨q + 1, by omega, by rw [Hla.out], by go_num, by
                  rw [Hre.out, List.length_append, hn0]
                  exact .inr ⟨bL, cL, FL, rfl, hbL, hcL, hFL, hM⟩⟩
                case measure => simp [intOf]; omega
              · have Hf : Hid (∀ j, j < rl.length * 1 → F j = vI (rl ++ [x]) j) := Lib.hid (fun j hj => by rw [hF j hj]; exact vI_old rl x hj)
                clear hF
                have tk_l1 : True := trivial; have tk_p1 : True := trivial
                go_wp2_with (first | (have _t := tk_l1; refine wpList_lit1 rfl _ _ _ rfl (.int .i64 x) (by first | rfl | exact congrArg (Value.int .i64) hx) rfl _ int64s_underR int64_infoR hM ?_; intro l1 W' hl1 hM'; clear hM tk_l1; have hM := hM'; clear hM') | (have _t := tk_p1; refine wpList_push1 rfl _ _ _ rfl _ 1 _ _ int64s_underR infoInt64S rfl (by omega) _ _ _ _ rfl hbb hnc hn _ _ rfl i64_one hM (vI (rl ++ [x])) Hf.out Hnew.out ?_; intro bL cL FL W' hbL hcL hFL hM'; clear hM tk_p1; have hM := hM'; clear hM'))
                go_roundw
                case rel => exact ⟨q + 1, by omega, by rw [Hla.out], by go_num, by
                  rw [Hre.out, List.length_append]
                  exact .inr ⟨bL, cL, FL, rfl, hbL, hcL, hFL, hM⟩⟩
                case measure => simp [intOf]; omega
            · have Hre : Hid (restR ys m (q + 1) = restR ys m q) := Lib.hid (by simp only [restR]; rw [if_neg (fun h => h0 h.2)])
              have d0 : decide (0 ≤ lastR ys m q) = false := decide_eq_false h0
              clear hm
              go_wp2
              go_roundw
              case rel => exact ⟨q + 1, by omega, by rw [Hla.out], by go_num, by rw [Hre.out]; exact hL⟩
              case measure => simp [intOf]; omega
          · have hb0 : (ys q != m) = true := by simp [hm]
            have Hla : Hid (lastR ys m (q + 1) = lastR ys m q) := Lib.hid (by simp [lastR, hm])
            have Hre : Hid (restR ys m (q + 1) = restR ys m q) := Lib.hid (by simp only [restR]; rw [if_neg (fun h => hm h.1)])
            go_wp2
            go_roundw
            case rel => exact ⟨q + 1, by omega, by rw [Hla.out], by go_num, by rw [Hre.out]; exact hL⟩
            case measure => simp [intOf]; omega
        · obtain rfl : q = k := by omega
          go_wp2
          go_ret2
          exact givesI_some Hr.out hL.only
end Go.Proofs.YtbbododeglkghaaDoor
