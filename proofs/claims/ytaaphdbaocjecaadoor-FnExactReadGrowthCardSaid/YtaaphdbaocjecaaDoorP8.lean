/-
  Several texts in one: ReadE, QuietOld, ParseN, Conv, ToSpot, ListK, StakeV, StepLit, StepCall, ParseSt, OkS, Greatest, EqSpot.
-/
import Derived.Test.YtaaphdbaocjecaaDoorP7
import Derived.Test.YtaaphdbaocjecaaDoorP4
import Derived.Test.YtaaphdbaocjecaaDoorP1
import Derived.WalkKit
import Derived.OwnWalk
import Derived.BigQuiet
import Derived.Test.YtaaphdbaocjecaaDoorP6
import Derived.Lib.Hide
/-
  An error that is errSyntax, or joined errors that are: errors.Is and impl.codeOf of it; errors.Join of two that may be there, by contracts.
-/
namespace Go.Proofs.YtaaphdbaocjecaaDoor
open Go Go.RowKit Go.BigFrame Go.Extern.Stop Go.Stop Go.Extern

def JoinAtG (G : Value → Prop) (lo : Nat) (W : World) (b c : Nat) : Prop := lo ≤ b ∧ ∃ eb cc F, lo ≤ eb ∧ At W b 1 (fun _ => .slice (some ⟨eb, 0, none⟩) c cc) ∧ At W eb (cc * 1) F ∧ b ≠ eb ∧ c ≤ cc ∧ ∀ j, j < c → G (F j)
theorem JoinAtG.below {G : Value → Prop} {lo : Nat} {W W' : World} {b c : Nat} (h : JoinAtG G lo W b c) (hb : Below W.heap.size W W') : JoinAtG G lo W' b c := by
  obtain ⟨h0, eb, cc, F, h4, h1, h2, h3⟩ := h
  exact ⟨h0, eb, cc, F, h4, h1.below hb h1.lt, h2.below hb h2.lt, h3⟩
def JoinInG (G : Value → Prop) (w : World) (bl m : Nat) (vs : Nat → Value) (es : Nat → Bool) (sb k : Nat) (wr : World) : Prop :=
  ∃ eb c F, (∀ j, j < cntE es k → G (F j)) ∧ cntE es k ≤ c ∧ w.heap.size ≤ eb ∧ Mem w [(eb, c * 1, F), (sb, 1, fun _ => .slice (some ⟨eb, 0, none⟩) (cntE es k) c), (bl, m, vs)] wr
theorem joinR_old (n : Nat) (F : Nat → Value) (v : Value) : ∀ j, j < n * 1 → F j = (fun i => if i < n then F i else v) j := fun j hj => by
  show F j = if j < n then F j else v
  rw [if_pos (by omega)]
theorem joinR_new (n : Nat) (F : Nat → Value) (v : Value) : ∀ j, j < 1 → v = (fun i => if i < n then F i else v) (n * 1 + j) := fun j hj => by
  show v = if n * 1 + j < n then F (n * 1 + j) else v
  rw [if_neg (by omega)]
theorem joinR_all {G : Value → Prop} {n : Nat} {F H : Nat → Value} {v : Value} (h1 : ∀ j, j < n → G (F j)) (h2 : G v) (h3 : ∀ j, j < (n + 1) * 1 → H j = (fun i => if i < n then F i else v) j) : ∀ j, j < n + 1 → G (H j) := fun j hj => by
  rw [h3 j (by omega)]
  show G (if j < n then F j else v)
  by_cases e : j < n
  · rw [if_pos e]; exact h1 j e
  · rw [if_neg e]; exact h2

set_option maxRecDepth 100000 in
set_option maxHeartbeats 4000000 in
theorem join_gen (G : Value → Prop) (vs : Nat → Value) (es : Nat → Bool) (bl m c : Nat) (hm : m ≤ 3) (h0 : 0 < cntE es m) (hv0 : ∀ k, k < m → es k = false → vs k = .nilIface) (hv1 : ∀ k, k < m → es k = true → ∃ t p, vs k = .iface t (.pointer p) ∧ G (.iface t (.pointer p))) (w : World) (hA : At w bl m vs) :
    Calls Tryd.prog 33 #[.slice (some ⟨bl, 0, none⟩) m c] w fun e w' => ∃ b, e = .returned (joinV b) ∧ JoinAtG G w.heap.size w' b (cntE es m) ∧ Below w.heap.size w w' := by
  have hM : Mem w [(bl, m, vs)] w := (Mem.nil w).old hA (fun i p h => by simp at h)
  have Hv0 := Lib.hid hv0
  have Hv1 := Lib.hid hv1
  clear hA hv0 hv1
  go_enter Tryd.func33, Tryd.ntmps33
  go_wp2
  go_loopw [3, 11] (fun n i wr => ∃ k : Nat, k ≤ m ∧ n = .int .i64 (cntE es k : Nat) ∧ i = .int .i64 k ∧ Mem w [(bl, m, vs)] wr) (fun _ i _ => m - (intOf i).toNat)
  case atStart => exact ⟨0, by omega, rfl, rfl, hM⟩
  case round =>
    clear hM
    obtain ⟨k, hk, rfl, rfl, hM⟩ := hrel
    by_cases hlt : k < m
    · have lk : (k : Int) < m := by omega
      have hle := cntE_le es k
      have c1 : IntKind.i64.wrap ((cntE es k : Nat) + 1 : Int) = ((cntE es k + 1 : Nat) : Int) := by rw [IntWalk.i64_in _ (by omega)]; rfl
      clear hle
      cases he : es k
      · have e0 : vs k = .nilIface := Hv0.out k (by omega) he
        have e1 : vs (k * 1) = .nilIface := by rw [Nat.mul_one]; exact e0
        go_wp2_with (first | (refine wpList_get1 rfl _ _ rfl _ _ rfl hM 0 rfl (cellTab _ rfl) (by omega) _ (by first | exact e0 | exact e1) ?_))
        go_roundw
        case rel => exact ⟨k + 1, by omega, by rw [cntE_no he], by go_num, hM⟩
        case measure => simp [intOf]; omega
      · obtain ⟨tt, tp, e0, hg⟩ := Hv1.out k (by omega) he
        have e1 : vs (k * 1) = .iface tt (.pointer tp) := by rw [Nat.mul_one]; exact e0
        have Hg := Lib.hid hg
        clear hg
        go_wp2_with (first | (refine wpList_get1 rfl _ _ rfl _ _ rfl hM 0 rfl (cellTab _ rfl) (by omega) _ (by first | exact e0 | exact e1) ?_))
        go_roundw
        case rel => exact ⟨k + 1, by omega, by rw [cntE_yes he]; exact congrArg _ (by omega), by go_num, hM⟩
        case measure => simp [intOf]; omega
    · obtain rfl : k = m := by omega
      have hle := cntE_le es k
      have hpos : ¬ ((cntE es k : Nat) : Int) = 0 := by omega
      have hpos2 : decide (((cntE es k : Nat) : Int) = 0) = false := decide_eq_false hpos
      have tk_q1 : True := trivial; have tk_q2 : True := trivial; have tk_q3 : True := trivial
      go_wp2_with (first | (have _t := tk_q1; refine wpList_make0 rfl _ _ _ _ rfl (cntE es k) rfl rfl .nilIface 16 rfl errs_under err_info (by omega) (by omega) hM ?_; intro eb W' heb hM'; clear hM tk_q1; have hM := hM'; clear hM') | (have _t := tk_q2; refine wpList_buildJ rfl _ rfl _ _ _ rfl ?_; clear tk_q2) | (have _t := tk_q3; refine wpList_box rfl _ _ rfl 1 _ rfl hM ?_; intro sb W' hsb hM'; clear hM tk_q3; have hM := hM'; clear hM'))
      have hJ : ∀ w0, w0 = w → ∀ wr, Mem w [(sb, 1, fun _ => .slice (some ⟨eb, 0, none⟩) 0 (cntE es k)), (eb, cntE es k * 1, fun _ => .nilIface), (bl, k, vs)] wr → JoinInG G w bl k vs es sb 0 wr := fun _ _ wr h =>
        ⟨eb, cntE es k, fun _ => .nilIface, fun j hj => absurd hj (by simp [cntE]), by simp [cntE], heb, h.swap⟩
      go_loopw [28] (fun i wr => ∃ j : Nat, j ≤ k ∧ i = .int .i64 j ∧ JoinInG G w bl k vs es sb j wr) (fun i _ => k - (intOf i).toNat)
      case atStart => exact ⟨0, by omega, rfl, hJ _ rfl _ hM⟩
      case round =>
        clear hM hJ
        obtain ⟨j, hj, rfl, eb1, c1, F1, hF1, hc1, heb1, hM⟩ := hrel
        by_cases hjl : j < k
        · have lj : (j : Int) < k := by omega
          have hlej := cntE_le es j
          cases he : es j
          · have e0 : vs j = .nilIface := Hv0.out j (by omega) he
            have e1 : vs (j * 1) = .nilIface := by rw [Nat.mul_one]; exact e0
            go_wp2_with (first | (refine wpList_get1 rfl _ _ rfl _ _ rfl hM 2 rfl (cellTab _ rfl) (by omega) _ (by first | exact e0 | exact e1) ?_))
            go_roundw
            case rel => exact ⟨j + 1, by omega, by go_num, eb1, c1, F1, by rw [cntE_no he]; exact hF1, by rw [cntE_no he]; exact hc1, heb1, by rw [cntE_no he]; exact hM⟩
            case measure => simp [intOf]; omega
          · obtain ⟨tt, tp, e0, hg⟩ := Hv1.out j (by omega) he
            have e1 : vs (j * 1) = .iface tt (.pointer tp) := by rw [Nat.mul_one]; exact e0
            have Hg := Lib.hid hg
            clear hg
            have tk_r1 : True := trivial; have tk_r2 : True := trivial; have tk_r3 : True := trivial; have tk_p1 : True := trivial; have tk_r4 : True := trivial
            go_wp2_with (first | (have _t := tk_r1; refine wpList_get1 rfl _ _ rfl _ _ rfl hM 2 rfl (cellTab _ rfl) (by omega) _ (by first | exact e0 | exact e1) ?_; clear tk_r1) | (have _t := tk_r2; (refine wpList_get1 rfl _ _ rfl _ _ rfl hM 1 rfl (cellTab _ rfl) (by omega) _ rfl ?_); clear tk_r2) | (have _t := tk_r3; refine wpList_lit1 rfl _ _ _ rfl (.iface tt (.pointer tp)) rfl rfl _ errs_under err_info2 hM ?_; intro bn W' hbn hM'; clear hM tk_r3; have hM := hM'; clear hM') | (have _t := tk_p1; refine wpList_push1 rfl _ _ _ rfl _ 1 _ _ errs_under err_info rfl (by omega) _ _ _ _ rfl heb1 hc1 (by omega) _ _ rfl (fun _ _ => rfl) hM (fun i => if i < cntE es j then F1 i else .iface tt (.pointer tp)) (joinR_old _ _ _) (joinR_new _ _ _) ?_; intro bL cL FL W' hbL hcL hFL hM'; clear hM tk_p1; have hM := hM'; clear hM') | (have _t := tk_r4; (refine wpList_set1 rfl _ _ _ rfl _ _ rfl _ rfl ?_ hM 1 rfl (by assumption) (cellTab _ rfl) (by omega) ?_; (first | rfl | exact h1 _); intro W' hM'; clear hM; have hM := hM'; clear hM'; simp [List.set, Act.eval] at hM); clear tk_r4))
            have hM2 := hM.re (b := sb) (n := 1) 1 rfl (fun _ => .slice (some ⟨bL, 0, none⟩) (cntE es j + 1) cL) (upd_one _ _)
            simp only [List.set] at hM2
            go_roundw
            case rel => exact ⟨j + 1, by omega, by go_num, bL, cL, FL, by rw [cntE_yes he]; exact joinR_all hF1 Hg.out hFL, by rw [cntE_yes he]; exact hcL, hbL, by rw [cntE_yes he, Nat.mul_one]; exact hM2⟩
            case measure => simp [intOf]; omega
        · obtain rfl : j = k := by omega
          go_wp2
          go_ret
          exact ⟨sb, rfl, ⟨hsb, eb1, c1, F1, heb1, hM.ats 1 _ _ _ rfl, hM.ats 0 _ _ _ rfl, hM.apart 1 0 _ _ rfl rfl (by omega), hc1, fun i hi => hF1 i hi⟩, hM.below⟩

/-- Asked which of the package's errors it is: errSyntax, now and later. -/
def SynE (a : Nat → Addr) (w : World) (v : Value) : Prop := ∃ t p, v = .iface t (.pointer p) ∧ ∀ W', Below w.heap.size w W' → ∀ j, j < 7 → Calls Tryd.prog 41 #[v, errV (a j), .bool true] W' fun e w' => e = .returned (.bool (decide (j = 3))) ∧ W' = w'
theorem SynE.below {a : Nat → Addr} {w w' : World} {v : Value} (h : SynE a w v) (hb : Below w.heap.size w w') : SynE a w' v := by
  obtain ⟨t, p, h1, h2⟩ := h
  exact ⟨t, p, h1, fun W' hw j hj => h2 W' (hb.trans (hw.mono hb.size)) j hj⟩
theorem synE_one {a : Nat → Addr} {w : World} (h : Errs a w) : SynE a w (errV (a 3)) := ⟨_, _, rfl, fun W' hb j hj => by
  by_cases e : j = 3
  · subst e; exact (is1_same _ _).mono fun _ _ h => ⟨h.1, h.2.symm⟩
  · refine (is1_no (h.below hb) 3 j (by omega) hj (fun k => e k.symm)).mono fun _ _ k => ⟨?_, k.2⟩
    rw [k.1, decide_eq_false e]⟩
set_option maxRecDepth 100000 in
set_option maxHeartbeats 4000000 in
/-- errors.is of joined errors that are errSyntax each. -/
theorem isG_any {a : Nat → Addr} {w0 : World} {lo : Nat} (b c j : Nat) (hj : j < 7) (hc : 0 < c) (hcm : c ≤ 1000) (w : World) (hb : Below w0.heap.size w0 w) (hJ : JoinAtG (SynE a w0) lo w b c) :
    Calls Tryd.prog 41 #[joinV b, errV (a j), .bool true] w fun e w' => e = .returned (.bool (decide (j = 3))) ∧ w = w' := by
  obtain ⟨-, eb, cc, F, -, h1, h2, hne, hle, hF⟩ := hJ
  have nE := noIsJ
  have uE := noUnwrapJ
  have vE := hasUnwraps
  have mU := methodUnwraps
  have heq := eql_types b (a j)
  have HF : Hid (∀ k, k < c → ∃ t p, w.cell? ⟨eb, k, none⟩ = some (.iface t (.pointer p)) ∧ Calls Tryd.prog 41 #[.iface t (.pointer p), errV (a j), .bool true] w fun e w' => e = .returned (.bool (decide (j = 3))) ∧ w = w') := Lib.hid (fun k hk => by
    obtain ⟨t, p, e1, e2⟩ := hF k hk
    refine ⟨t, p, by rw [h2.cell (by omega), e1], ?_⟩
    have := e2 w hb j hj
    rwa [e1] at this)
  have H1 := Lib.hid h1
  have Hb := Lib.hid hb
  clear h1 h2 hF hb
  obtain ⟨x, hx⟩ : ∃ x, errV (a j) = x := ⟨_, rfl⟩
  obtain ⟨q, hq⟩ : ∃ q : Bool, decide (j = 3) = q := ⟨_, rfl⟩
  rw [hq] at HF ⊢
  have Hq := Lib.hid hq
  clear hq
  cases q
  · unfold errV at hx
    subst hx
    unfold joinV errV at *
    go_enter Tryd.func41, Tryd.ntmps41
    go_wp2
    refine wp_loop_rounds 1 ?_
    rw [rounds_succ]
    go_wp2_with (first | (go_at_call 109; refine (unwraps_any b _ _ H1.out).mono ?_; rintro e W' ⟨rfl, rfl⟩))
    go_loopw [45] (fun n wr => ∃ k : Nat, k ≤ c ∧ n = .int .i64 k ∧ wr = W') (fun n _ => c - (intOf n).toNat)
    case atStart => exact ⟨0, by omega, rfl, rfl⟩
    case round =>
      obtain ⟨k, hk, rfl, rfl⟩ := hrel
      by_cases hlt : k < c
      · have lk : (k : Int) < c := by omega
        obtain ⟨t, p, ck, hi⟩ := HF.out k hlt
        have Hi := Lib.hid hi
        clear hi
        go_wp2_with (first | (go_at_call 41; refine (Hi.out).mono ?_; rintro e W' ⟨rfl, rfl⟩))
        go_roundw
        case rel => exact ⟨k + 1, by omega, by go_num, by first | rfl | trivial⟩
        case measure => simp [intOf]; omega
      · obtain rfl : k = c := by omega
        go_wp2
        go_ret
        exact ⟨rfl, rfl⟩
  · unfold errV at hx
    subst hx
    obtain ⟨t, p, c0, hi⟩ := HF.out 0 hc
    have Hi := Lib.hid hi
    have lc : (0 : Int) < c := by omega
    clear hi
    unfold joinV errV at *
    go_enter Tryd.func41, Tryd.ntmps41
    go_wp2
    refine wp_loop_rounds 1 ?_
    rw [rounds_succ]
    go_wp2_with (first | (go_at_call 109; refine (unwraps_any b _ _ H1.out).mono ?_; rintro e W' ⟨rfl, rfl⟩))
    refine wp_loop_rounds 1 ?_
    rw [rounds_succ]
    go_wp2_with (first | (go_at_call 41; refine (Hi.out).mono ?_; rintro e W' ⟨rfl, rfl⟩))
    go_ret
    exact ⟨rfl, rfl⟩
theorem synE_join {a : Nat → Addr} {w0 w : World} {b c lo : Nat} (hc : 0 < c) (hcm : c ≤ 1000) (hb : Below w0.heap.size w0 w) (h : JoinAtG (SynE a w0) lo w b c) : SynE a w (joinV b) :=
  ⟨_, _, rfl, fun W' hw j hj => isG_any b c j hj hc hcm W' (hb.trans (hw.mono hb.size)) (h.below hw)⟩


/-- An error in these blocks: errSyntax, or joined errors that are, so deep. -/
def ErrIn (a : Nat → Addr) : Nat → Value → Blocks → Prop
  | 0, v, _ => v = errV (a 3)
  | d + 1, v, K => v = errV (a 3) ∨ ∃ b eb cc c F, v = joinV b ∧ (b, 1, fun _ => .slice (some ⟨eb, 0, none⟩) c cc) ∈ K ∧ (eb, cc * 1, F) ∈ K ∧ b ≠ eb ∧ 0 < c ∧ c ≤ cc ∧ c ≤ 1000 ∧ ∀ j, j < c → ErrIn a d (F j) K
theorem ErrIn.mono {a : Nat → Addr} {K K' : Blocks} (hK : ∀ p, p ∈ K → p ∈ K') : ∀ {d : Nat} {v : Value}, ErrIn a d v K → ErrIn a d v K'
  | 0, _, h => h
  | d + 1, _, h => by
    rcases h with h | ⟨b, eb, cc, c, F, h1, h2, h3, h4, h5, h6, h7, h8⟩
    · exact .inl h
    · exact .inr ⟨b, eb, cc, c, F, h1, hK _ h2, hK _ h3, h4, h5, h6, h7, fun j hj => (h8 j hj).mono hK⟩
theorem ErrIn.one {a : Nat → Addr} {K : Blocks} (d : Nat) : ErrIn a d (errV (a 3)) K := by
  cases d
  · exact rfl
  · exact .inl rfl
theorem ErrIn.deep {a : Nat → Addr} {K : Blocks} : ∀ {d : Nat} {v : Value}, ErrIn a d v K → ErrIn a (d + 1) v K
  | 0, _, h => .inl h
  | d + 1, _, h => by
    rcases h with h | ⟨b, eb, cc, c, F, h1, h2, h3, h4, h5, h6, h7, h8⟩
    · exact .inl h
    · exact .inr ⟨b, eb, cc, c, F, h1, h2, h3, h4, h5, h6, h7, fun j hj => (h8 j hj).deep⟩
theorem ErrIn.iface {a : Nat → Addr} {K : Blocks} : ∀ {d : Nat} {v : Value}, ErrIn a d v K → ∃ t p, v = .iface t (.pointer p)
  | 0, _, h => ⟨_, _, h⟩
  | d + 1, _, h => by
    rcases h with h | ⟨b, eb, cc, c, F, h1, -⟩
    · exact ⟨_, _, h⟩
    · exact ⟨_, _, h1⟩
theorem ErrIn.syn {a : Nat → Addr} {W : World} {K : Blocks} (hE : Errs a W) (hK : ∀ p, p ∈ K → At W p.1 p.2.1 p.2.2) : ∀ {d : Nat} {v : Value}, ErrIn a d v K → SynE a W v
  | 0, _, h => by rw [show _ = _ from h]; exact synE_one hE
  | d + 1, _, h => by
    rcases h with h | ⟨b, eb, cc, c, F, h1, h2, h3, h4, h5, h6, h7, h8⟩
    · rw [h]; exact synE_one hE
    · rw [h1]
      exact synE_join (lo := 0) h5 h7 (Below.refl _ _) ⟨Nat.zero_le _, eb, cc, F, Nat.zero_le _, hK _ h2, hK _ h3, h4, h6, fun j hj => (h8 j hj).syn hE hK⟩
/-- Nothing wrong, or an error in these blocks. -/
def EvK (a : Nat → Addr) (d : Nat) (ok : Bool) (v : Value) (K : Blocks) : Prop := (ok = true ∧ v = .nilIface) ∨ (ok = false ∧ ErrIn a d v K)
theorem EvK.mono {a : Nat → Addr} {d : Nat} {ok : Bool} {v : Value} {K K' : Blocks} (h : EvK a d ok v K) (hK : ∀ p, p ∈ K → p ∈ K') : EvK a d ok v K' := h.imp id (fun h => ⟨h.1, h.2.mono hK⟩)
theorem EvK.deep {a : Nat → Addr} {d : Nat} {ok : Bool} {v : Value} {K : Blocks} (h : EvK a d ok v K) : EvK a (d + 1) ok v K := h.imp id (fun h => ⟨h.1, h.2.deep⟩)
theorem EvK.one {a : Nat → Addr} {d : Nat} {ok : Bool} {v : Value} {K : Blocks} (h : EvK a d ok v K) : v.oneCell' = true := by
  rcases h with ⟨-, rfl⟩ | ⟨-, h⟩
  · rfl
  · obtain ⟨t, p, rfl⟩ := h.iface; rfl
def evN (a : Nat → Addr) (ok : Bool) : Value := if ok then .nilIface else errV (a 3)
theorem evN_k (a : Nat → Addr) (d : Nat) (ok : Bool) (K : Blocks) : EvK a d ok (evN a ok) K := by
  cases ok
  · exact .inr ⟨rfl, ErrIn.one d⟩
  · exact .inl ⟨rfl, rfl⟩
def twoV (x y : Value) : Nat → Value := fun k => if k = 0 then x else y
/-- errors.Join of two that may be there. -/
theorem join2_any {a : Nat → Addr} (d : Nat) (p q : Bool) (x y : Value) (K : Blocks) (bl c : Nat) (w : World) (hx : EvK a d p x K) (hy : EvK a d q y K) (hA : At w bl 2 (twoV x y)) :
    Calls Tryd.prog 33 #[.slice (some ⟨bl, 0, none⟩) 2 c] w fun e w' => ∃ v N, e = .returned v ∧ EvK a (d + 1) (p && q) v (N ++ K) ∧ Mem (Base.of w) N w' ∧ ∀ p, p ∈ N → w.heap.size ≤ p.1 := by
  by_cases hpq : (p && q) = true
  · rw [Bool.and_eq_true] at hpq
    obtain ⟨rfl, rfl⟩ := hpq
    have ex : x = .nilIface := by rcases hx with ⟨-, h⟩ | ⟨h, -⟩; exact h; cases h
    have ey : y = .nilIface := by rcases hy with ⟨-, h⟩ | ⟨h, -⟩; exact h; cases h
    subst ex ey
    have hA' : At w bl 2 (errE (a 3) (fun _ => false)) := by
      obtain ⟨t, h⟩ := hA
      refine ⟨t, h.trans ?_⟩
      rw [show arr 2 (twoV .nilIface .nilIface) = arr 2 (errE (a 3) fun _ => false) from arr_congr fun j hj => by unfold twoV errE; simp]
    refine (join_none (a 3) (fun _ => false) bl 2 c (by omega) rfl w hA').mono ?_
    rintro e w' ⟨rfl, hb⟩
    exact ⟨_, [], rfl, .inl ⟨rfl, rfl⟩, Mem.start (w := Base.of w) hb, fun p hp => by cases hp⟩
  · have hpq2 : (p && q) = false := by simpa using hpq
    have nx : p = true → x = .nilIface := fun e => by rcases hx with ⟨-, h⟩ | ⟨h, -⟩; exact h; rw [e] at h; cases h
    have ny : q = true → y = .nilIface := fun e => by rcases hy with ⟨-, h⟩ | ⟨h, -⟩; exact h; rw [e] at h; cases h
    have ix : p = false → ErrIn a d x K := fun e => by rcases hx with ⟨h, -⟩ | ⟨-, h⟩; rw [e] at h; cases h; exact h
    have iy : q = false → ErrIn a d y K := fun e => by rcases hy with ⟨h, -⟩ | ⟨-, h⟩; rw [e] at h; cases h; exact h
    refine (join_gen (fun v => ErrIn a d v K) (twoV x y) (fun k => if k = 0 then !p else !q) bl 2 c (by omega) ?_ ?_ ?_ w hA).mono ?_
    · cases p
      · simp [cntE]; omega
      · cases q
        · simp [cntE]
        · exact absurd hpq2 (by simp)
    · intro k hk he
      have : k = 0 ∨ k = 1 := by omega
      rcases this with rfl | rfl
      · exact nx (by simpa using he)
      · exact ny (by simpa using he)
    · intro k hk he
      have : k = 0 ∨ k = 1 := by omega
      rcases this with rfl | rfl
      · have h := ix (by simpa using he)
        obtain ⟨t, r, e⟩ := h.iface
        exact ⟨t, r, e, by rw [← e]; exact h⟩
      · have h := iy (by simpa using he)
        obtain ⟨t, r, e⟩ := h.iface
        exact ⟨t, r, e, by rw [← e]; exact h⟩
    · rintro e w' ⟨b, rfl, hJ, hb⟩
      have hle := cntE_le (fun k => if k = 0 then !p else !q) 2
      have hpos : 0 < cntE (fun k => if k = 0 then !p else !q) 2 := by
        cases p
        · simp [cntE]; omega
        · cases q
          · simp [cntE]
          · exact absurd hpq2 (by simp)
      generalize cntE (fun k => if k = 0 then !p else !q) 2 = n at hJ hle hpos
      obtain ⟨h0, eb, cc, F, h4, h1, h2, h5, h6, h7⟩ := hJ
      have hM : Mem (Base.of w) [(b, 1, fun _ => .slice (some ⟨eb, 0, none⟩) n cc), (eb, cc * 1, F)] w' :=
        ((Mem.start (w := Base.of w) hb).old h1 (fun i p h => by simp at h)).old h2 (fun i p h => by
          match i, h with
          | 0, h => simp at h; rw [← h]; exact h5
          | _ + 1, h => simp at h)
      refine ⟨_, [(b, 1, fun _ => .slice (some ⟨eb, 0, none⟩) n cc), (eb, cc * 1, F)], rfl, .inr ⟨hpq2, .inr ⟨b, eb, cc, n, F, rfl, by simp, by simp, h5, hpos, h6, by omega, fun j hj => (h7 j hj).mono (fun p hp => List.mem_append_right _ hp)⟩⟩, hM, fun p hp => ?_⟩
      simp only [List.mem_cons, List.not_mem_nil, or_false] at hp
      rcases hp with rfl | rfl
      · exact h0
      · exact h4
/-- The order of blocks does not matter. -/
theorem Mem.shuf {w : Base} {W : World} {L L' : Blocks} (h : Mem w L W) (hp : L.Perm L') : Mem w L' W := by
  have hw : L.Pairwise (fun p q => p.1 ≠ q.1) := List.pairwise_iff_getElem.2 fun i j hi hj hlt => h.apart i j _ _ (List.getElem?_eq_getElem hi) (List.getElem?_eq_getElem hj) (by omega)
  have hw' := (hp.pairwise_iff (fun {a b} (h : a.1 ≠ b.1) => h.symm)).1 hw
  have hw2 := List.pairwise_iff_getElem.1 hw'
  refine ⟨h.good, fun i b n f hi => ?_, fun i j p q hi hj hne => ?_⟩
  · obtain ⟨j, hj⟩ := List.getElem?_of_mem (hp.mem_iff.2 (List.mem_of_getElem? hi))
    exact h.ats j b n f hj
  · obtain ⟨hil, ei⟩ := List.getElem?_eq_some_iff.1 hi
    obtain ⟨hjl, ej⟩ := List.getElem?_eq_some_iff.1 hj
    rcases Nat.lt_or_gt_of_ne hne with h1 | h1
    · have := hw2 i j hil hjl h1; rwa [ei, ej] at this
    · have := hw2 j i hjl hil h1; rw [ei, ej] at this; exact fun e => this e.symm
theorem Mem.ofK {w : Base} {W : World} {L : Blocks} (h : Mem w L W) : ∀ p, p ∈ L → At W p.1 p.2.1 p.2.2 := fun p hp => by
  obtain ⟨i, hi⟩ := List.getElem?_of_mem hp
  exact h.ats i _ _ _ hi
/-- A call gave blocks of its own: behind those that were there. -/
theorem Mem.back {b0 : Base} {L K : Blocks} {X X' : World} (hM : Mem b0 L X) (hK : Mem (Base.of X) K X') (hge : ∀ p, p ∈ K → X.heap.size ≤ p.1) : Mem b0 (L ++ K) X' :=
  (hM.front hK.below hK (fun i p h => hge p (List.mem_of_getElem? h))).shuf List.perm_append_comm
set_option maxRecDepth 100000 in
theorem IsG_any {a : Nat → Addr} {w : World} {v : Value} (j : Nat) (hj : j < 7) (h : SynE a w v) :
    Calls Tryd.prog 27 #[v, errV (a j)] w fun e w' => e = .returned (.bool (decide (j = 3))) ∧ w = w' := by
  have h8 := @run_callFunc_extern Tryd.prog 40 _ Extern.ReflectliteType.typeOf Tryd.func40 (by kernel_rfl) (by kernel_rfl) (by kernel_rfl) (by kernel_rfl)
  have tT := isTypeOf
  have cT := isComparable
  have mR := isMethodComparable
  obtain ⟨t, p, rfl, h⟩ := h
  have hY := h w (Below.refl _ _) j hj
  clear h
  generalize decide (j = 3) = q at hY ⊢
  unfold errV at hY ⊢
  have HY := Lib.hid hY
  clear hY
  go_enter Tryd.func27, Tryd.ntmps27
  go_wp2_with (first | (go_at_call 41; refine HY.out.mono ?_; rintro e W' ⟨rfl, rfl⟩))
  go_ret
  exact ⟨rfl, rfl⟩
theorem IsG_no {a : Nat → Addr} {w : World} {v : Value} (j : Nat) (hj : j < 7) (h3 : j ≠ 3) (h : SynE a w v) :
    Calls Tryd.prog 27 #[v, errV (a j)] w fun e w' => e = .returned (.bool false) ∧ w = w' := by
  have := IsG_any j hj h
  rwa [decide_eq_false h3] at this
theorem IsG_yes {a : Nat → Addr} {w : World} {v : Value} (h : SynE a w v) :
    Calls Tryd.prog 27 #[v, errV (a 3)] w fun e w' => e = .returned (.bool true) ∧ w = w' := IsG_any 3 (by omega) h
set_option maxRecDepth 100000 in
set_option maxHeartbeats 4000000 in
theorem codeG_any {a : Nat → Addr} {w : World} {v : Value} (h : Errs a w) (hS : SynE a w v) :
    Calls Tryd.prog 16 #[v] w fun e w' => e = .returned (.int .i64 5) ∧ w = w' := by
  have v0 : w.cell? ⟨1, 0, none⟩ = some (errV (a 0)) := h.vars 0 (by omega)
  have v1 : w.cell? ⟨2, 0, none⟩ = some (errV (a 1)) := h.vars 1 (by omega)
  have v5 : w.cell? ⟨3, 0, none⟩ = some (errV (a 5)) := h.vars 5 (by omega)
  have v2 : w.cell? ⟨4, 0, none⟩ = some (errV (a 2)) := h.vars 2 (by omega)
  have v3 : w.cell? ⟨0, 0, none⟩ = some (errV (a 3)) := h.vars 3 (by omega)
  have HS := Lib.hid hS
  clear h hS
  go_enter Tryd.func16, Tryd.ntmps16
  go_wp2_with (first | (go_at_call 27; (with_reducible refine (IsG_no 0 (by omega) (by omega) HS.out).mono ?_); rintro e W' ⟨rfl, rfl⟩) | (go_at_call 27; (with_reducible refine (IsG_no 1 (by omega) (by omega) HS.out).mono ?_); rintro e W' ⟨rfl, rfl⟩) | (go_at_call 27; (with_reducible refine (IsG_no 5 (by omega) (by omega) HS.out).mono ?_); rintro e W' ⟨rfl, rfl⟩) | (go_at_call 27; (with_reducible refine (IsG_no 2 (by omega) (by omega) HS.out).mono ?_); rintro e W' ⟨rfl, rfl⟩) | (go_at_call 27; (with_reducible refine (IsG_yes HS.out).mono ?_); rintro e W' ⟨rfl, rfl⟩))
  go_ret
  exact ⟨rfl, rfl⟩
end Go.Proofs.YtaaphdbaocjecaaDoor

/-
  A load, in a drawn region, of a cell that lies below the base: an error's variable.
-/
namespace Go.Proofs.YtaaphdbaocjecaaDoor
open Go Go.RowKit Go.BigFrame

section
variable {P : Program} {o : Oper} {a : Act} {w : Base} {L : Blocks} {K : Act → Prop}
/-- A load of a cell that every world of the class holds. -/
theorem quiet_old (ty : TypeId) (x : Operand) (ho : o.op = .load ty x) (b off : Nat) (hx : a.eval x = .pointer (some ⟨b, off, none⟩)) (hT : CellT P ty) (v : Value) (hc : ∀ W, Mem w L W → W.cell? ⟨b, off, none⟩ = some v)
    (h : K (a.put o.dst v)) : o.quiet P a (Mem w L) K := by
  refine ⟨v, fun W hM => ?_, h⟩
  obtain ⟨⟨d, hu, hd⟩, _⟩ := hT
  have hagg : (isAgg ty).run P W = .ok false W := by
    unfold isAgg
    rw [Sem.run_bind, run_underlying hu W]
    cases d <;> simp_all [TypeDesc.isRow]
  have hl : (load ⟨b, off, none⟩).run P W = .ok v W := by simp [load, Sem.run, hc W hM]
  unfold Oper.quietAt execOp
  simp only [ho, hx, Instr.loadAt, Instr.sureAddr, loadVar, Sem.run_bind, Sem.run_pure, Result.andThen_ok, hagg, Bool.false_eq_true, if_false, hl]
  exact ⟨rfl, rfl⟩
end

end Go.Proofs.YtaaphdbaocjecaaDoor

/-
  impl.parseNumber, impl.parseSpot by contracts.
-/
namespace Go.Proofs.YtaaphdbaocjecaaDoor
open Go Go.RowKit Go.BigFrame

/-- What the parsing functions read of the world. -/
structure PEnv (a : Nat → Addr) (W : World) : Prop where
  errs : Errs a W
  num : NumE W
  max : MaxP W
theorem PEnv.below {a : Nat → Addr} {W W' : World} (h : PEnv a W) (hb : Below W.heap.size W W') : PEnv a W' := ⟨h.errs.below hb, h.num.below hb, h.max.below hb⟩
theorem pVal_no {B : Nat} {l : List UInt8} (h : pOk B l = false) : pVal B l = 0 := by
  unfold pOk at h
  unfold pVal
  split at h
  · cases h
  · rename_i hn
    cases hq : Lib.parseIntB B l
    · rename_i v; exact absurd hq (hn v)
    · rfl
    · rfl
theorem parse_any (B : Int) (N : Nat) (hB : (B = 8 ∧ N = 8) ∨ (B = 16 ∧ N = 16)) (l : List UInt8) (hl : l.length ≤ 1048576) (w : World) (h : NumE w) :
    Calls Tryd.prog 39 #[.string (bs l), .int .i64 10, .int .i64 B] w fun e w' => (pOk N l = true ∧ e = .returned (.tuple #[.int .i64 (pVal N l), .nilIface]) ∨ pOk N l = false ∧ ∃ x t p, e = .returned (.tuple #[.int .i64 x, .iface t (.pointer p)])) ∧ Below w.heap.size w w' := by
  rcases hB with ⟨rfl, rfl⟩ | ⟨rfl, rfl⟩
  · exact parse8_any l hl w h
  · exact parse16_any l hl w h
set_option maxRecDepth 100000 in
theorem parseNumber_any {a : Nat → Addr} (B : Int) (N : Nat) (hB : (B = 8 ∧ N = 8) ∨ (B = 16 ∧ N = 16)) (l : List UInt8) (hl : l.length ≤ 1048576) (w : World) (hE : PEnv a w) :
    Calls Tryd.prog 26 #[.string (bs l), .int .i64 B] w fun e w' => e = .returned (.tuple #[.int .i64 (pVal N l), evN a (pOk N l)]) ∧ Below w.heap.size w w' := by
  have hM := Mem.nil w
  have HE := Lib.hid hE
  have hP := parse_any B N hB l hl w hE.num
  cases hp : pOk N l
  · have HP := Lib.hid (hP.mono (R' := fun e w' => (∃ x t p, e = .returned (.tuple #[.int .i64 x, .iface t (.pointer p)])) ∧ Below w.heap.size w w') (by
      rintro e w' ⟨h | ⟨-, h⟩, hb⟩
      · rw [hp] at h; cases h.1
      · exact ⟨h, hb⟩))
    have H0 := Lib.hid (pVal_no hp)
    clear hP hE hp
    go_enter Tryd.func26, Tryd.ntmps26
    go_wp2_with (first | (go_at_call 39; refine (HP.out).mono ?_; rintro e W' ⟨⟨x, t, p, rfl⟩, hb'⟩; have hM' := hM.call hb'; clear hM hb'; have hM := hM'; clear hM'))
    ((try simp only [Act.put, List.setIfInBounds_toArray, List.set_cons_succ, List.set_cons_zero]); refine wp_region_mem (by kernel_rfl) (by kernel_rfl) hM ?_; clear hM; (repeat (first | go_big_quiet_skip | (go_big_quiet_want; first | (refine quiet_old _ _ rfl _ _ rfl (cellTab _ rfl) (errV (a 3)) (fun W hM2 => (HE.out.errs.below hM2.below).vars 3 (by omega)) ?_; (simp only [Act.put, List.setIfInBounds_toArray, List.set_cons_succ, List.set_cons_zero]); go_big_quiet_on) | (refine quiet_val ?_; apply Exists.intro; refine ⟨fun W => ?_, ?_⟩; (go_simp; (try simp only [rfl, if_true, Bool.false_eq_true, if_false]); rfl); (simp only [Act.put, List.setIfInBounds_toArray, List.set_cons_succ, List.set_cons_zero]); go_big_quiet_on)))); (with_reducible refine wpQuiet_nil ?_); intro W' hM)
    go_wp2
    refine bodyPost_ret (results_tmp2 rfl _ _ _) rfl ?_
    rw [H0.out]
    exact ⟨rfl, hM.below⟩
  · have HP := Lib.hid (hP.mono (R' := fun e w' => e = .returned (.tuple #[.int .i64 (pVal N l), .nilIface]) ∧ Below w.heap.size w w') (by
      rintro e w' ⟨⟨-, h⟩ | ⟨h, -⟩, hb⟩
      · exact ⟨h, hb⟩
      · rw [hp] at h; cases h))
    clear hP hE hp
    go_enter Tryd.func26, Tryd.ntmps26
    go_wp2_with (first | (go_at_call 39; refine (HP.out).mono ?_; rintro e W' ⟨rfl, hb'⟩; have hM' := hM.call hb'; clear hM hb'; have hM := hM'; clear hM'))
    refine bodyPost_ret (results_tmp2 rfl _ _ _) rfl ?_
    exact ⟨rfl, hM.below⟩

/-- What a word tells of a spot, loosely. -/
def spE (l : List UInt8) : List UInt8 := (Lib.cut l [44]).1
def spS (l : List UInt8) : List UInt8 := (Lib.cut l [44]).2.1
def spOk (l : List UInt8) : Bool := pOk 8 (spE l) && pOk 8 (spS l)
def spX (l : List UInt8) : Int := IntKind.i8.wrap (pVal 8 (spE l))
def spY (l : List UInt8) : Int := IntKind.i8.wrap (pVal 8 (spS l))
theorem run_buildSp (x y : Int) (W : World) : (Instr.build 49 #[(0, .int .i8 x), (1, .int .i8 y)]).run Tryd.prog W = .ok (.agg (arr 2 (sp x y))) W := by kernel_rfl
theorem wpList_buildSp {ops : Array Oper} {rest : List Oper} {o : Oper} {a : Act} {W : World} {Q : Exit → Act → World → Prop} (hgd : o.guard = none) (x y : Operand) (ho : o.op = .build 49 #[(0, x), (1, y)]) (u v : Int) (hx : a.eval x = .int .i8 u) (hy : a.eval y = .int .i8 v)
    (h : wpList Tryd.prog ops Q rest (a.put o.dst (.agg (arr 2 (sp u v)))) W) : wpList Tryd.prog ops Q (o :: rest) a W := by
  refine wpList_plain hgd fun K hK => ?_
  unfold Oper.wp execOp
  have e : (Array.map (fun (z : Nat × Operand) => match z with | (i, x) => (i, a.eval x)) #[(0, x), (1, y)]) = #[(0, .int .i8 u), (1, .int .i8 v)] := by simp [hx, hy]
  simp only [ho, e, Sem.run_bind, Sem.run_pure, run_buildSp, Result.andThen_ok]
  exact hK _ _ h
set_option maxRecDepth 100000 in
set_option maxHeartbeats 2000000 in
theorem parseSpot_any {a : Nat → Addr} (l : List UInt8) (hl : l.length ≤ 1048576) (w : World) (hE : PEnv a w) :
    Calls Tryd.prog 32 #[.string (bs l)] w fun e w' => ∃ v N, e = .returned (.tuple #[.agg (arr 2 (sp (spX l) (spY l))), v]) ∧ EvK a 1 (spOk l) v N ∧ Mem (Base.of w) N w' ∧ ∀ p, p ∈ N → w.heap.size ≤ p.1 := by
  have hM := Mem.nil w
  have HE := Lib.hid hE
  have l1 := cut_len1 l [44]
  have l2 := cut_len2 l [44]
  have HC := Lib.hid (cut_any l 44 hl)
  have HX := Lib.hid (show spX l = IntKind.i8.wrap (pVal 8 (spE l)) from rfl)
  have HY := Lib.hid (show spY l = IntKind.i8.wrap (pVal 8 (spS l)) from rfl)
  have HO := Lib.hid (show spOk l = (pOk 8 (spE l) && pOk 8 (spS l)) from rfl)
  rw [show (Lib.cut l [44]).1 = spE l from rfl] at HC l1
  rw [show (Lib.cut l [44]).2.1 = spS l from rfl] at HC l2
  generalize (Lib.cut l [44]).2.2 = cb at HC
  obtain ⟨u, hu⟩ : ∃ u, spE l = u := ⟨_, rfl⟩
  obtain ⟨v, hv⟩ : ∃ v, spS l = v := ⟨_, rfl⟩
  rw [hu] at HC l1 HX HO
  rw [hv] at HC l2 HY HO
  have HU := Lib.hid (fun (W : World) (h : PEnv a W) => parseNumber_any 8 8 (.inl ⟨rfl, rfl⟩) u (by omega) W h)
  have HV := Lib.hid (fun (W : World) (h : PEnv a W) => parseNumber_any 8 8 (.inl ⟨rfl, rfl⟩) v (by omega) W h)
  rw [HX.out, HY.out, HO.out]
  obtain ⟨e1, he1⟩ : ∃ e1, evN a (pOk 8 u) = e1 := ⟨_, rfl⟩
  obtain ⟨e2, he2⟩ : ∃ e2, evN a (pOk 8 v) = e2 := ⟨_, rfl⟩
  have K1 := Lib.hid (show EvK a 0 (pOk 8 u) e1 [] by rw [← he1]; exact evN_k _ _ _ _)
  have K2 := Lib.hid (show EvK a 0 (pOk 8 v) e2 [] by rw [← he2]; exact evN_k _ _ _ _)
  rw [he1] at HU
  rw [he2] at HV
  generalize pVal 8 u = x at HU ⊢
  generalize pVal 8 v = y at HV ⊢
  generalize pOk 8 u = ou at K1 ⊢
  generalize pOk 8 v = ov at K2 ⊢
  clear he1 he2 HX HY HO hu hv hE
  have tk_b2 : True := trivial; have tk_n1 : True := trivial; have tk_n2 : True := trivial; have tk_l2 : True := trivial; have tk_s2 : True := trivial
  go_enter Tryd.func32, Tryd.ntmps32
  go_wp2_with (first | (have _t := tk_b2; refine wpList_zero rfl _ rfl (zeroTab _ _ _ rfl) hM ?_; intro b2 W' hb2 hM'; clear hM tk_b2; have hM := hM'; clear hM') | (go_at_call 24; refine (HC.out _ (HE.out.max.below hM.below)).mono ?_; rintro e W' ⟨rfl, hb'⟩; have hM' := hM.call hb'; clear hM hb'; have hM := hM'; clear hM') | (have _t := tk_n1; (go_at_call 26; refine (HU.out _ (HE.out.below hM.below)).mono ?_; rintro e W' ⟨rfl, hb'⟩; have hM' := hM.call hb'; clear hM hb'; have hM := hM'; clear hM'); clear tk_n1) | (have _t := tk_n2; (go_at_call 26; refine (HV.out _ (HE.out.below hM.below)).mono ?_; rintro e W' ⟨rfl, hb'⟩; have hM' := hM.call hb'; clear hM hb'; have hM := hM'; clear hM'); clear tk_n2) | (refine wpList_buildSp rfl _ _ rfl _ _ rfl rfl ?_) | (have _t := tk_l2; refine wpList_lit2 rfl _ _ _ _ rfl e1 e2 rfl rfl K1.out.one K2.out.one _ errs_under err_info2 hM ?_; intro bn W' hbn hM'; clear hM tk_l2; have hM := hM'; clear hM') | (go_at_call 33; refine (join2_any 0 ou ov e1 e2 [] bn 2 _ K1.out K2.out (hM.ats 0 _ _ _ rfl)).mono ?_; rintro e W' ⟨ve, N, rfl, hv, hN, hge⟩; have Hv := Lib.hid hv; have Hg := Lib.hid (fun p hp => Nat.le_trans hM.size (hge p hp)); have hM' := hM.back hN hge; simp only [List.cons_append, List.nil_append] at hM'; clear hM hN hge hv; have hM := hM'.drop; clear hM') | (have _t := tk_s2; (refine wpList_lay rfl _ _ _ rfl _ _ rfl _ _ rfl hM 0 rfl (by assumption) (rowTab _ _ rfl) (by omega) ?_ ?_; (first | (intro _ _; rfl) | (intro k _; exact h1 _) | (intro k _; simp only [lay, upd]; (repeat' split) <;> first | exact h1 _ | rfl)); intro W' hM'; clear hM; have hM := hM'; clear hM'; simp only [List.set] at hM); clear tk_s2))
  have hM1 := hM.re 0 rfl (sp (IntKind.i8.wrap x) (IntKind.i8.wrap y)) (fun j hj => by simp [lay, hj])
  simp only [List.set_cons_zero] at hM1
  refine bodyPost_ret (results_at2 rfl _ rfl (hM1.ats 0 _ _ _ rfl) (rowTab _ _ rfl) _ rfl) rfl ?_
  exact ⟨ve, N, rfl, Hv.out.mono (fun p hp => by simpa using hp), hM1.drop, Hg.out⟩
end Go.Proofs.YtaaphdbaocjecaaDoor

/-
  laws.toInt16A10, toInt16A10A10, toUint16A10, toPasture: each hands back what it is handed.
-/
namespace Go.Proofs.YtaaphdbaocjecaaDoor
open Go Go.RowKit Go.BigFrame

end Go.Proofs.YtaaphdbaocjecaaDoor

/-
  laws.toSpot by contract.
-/
namespace Go.Proofs.YtaaphdbaocjecaaDoor
open Go Go.RowKit Go.BigFrame

end Go.Proofs.YtaaphdbaocjecaaDoor

/-
  A spot out of a reading.
-/
namespace Go.Proofs.YtaaphdbaocjecaaDoor
open Go Go.RowKit Go.BigFrame Go.ChangeShapes Go.WideShapes Go.Deep

section
variable {H : Type} {enc : TypeId × Value → H} {w : World} {base : Nat} {spare : Nat → Bool} {held : Bool}
end
end Go.Proofs.YtaaphdbaocjecaaDoor

/-
  Stake: its cells; argument lists; laws.szStakeS, toStake, toStakeS by contracts.
-/
namespace Go.Proofs.YtaaphdbaocjecaaDoor
open Go Go.RowKit Go.BigFrame Go.ChangeShapes Go.WideShapes Go.Deep

/-- The integer kind of each cell; the cells. -/
def kStake (k : Nat) : IntKind := if k < 2 then .i8 else .i16
def vStake (h : Nat → Int) : Nat → Value := fun k => .int (kStake k) (h k)
def zStake : Nat → Value := fun k => .int (kStake k) 0
theorem rowStake : RowT Tryd.prog 51 3 := ⟨⟨_, Tryd.underlying51, rfl⟩, by kernel_rfl⟩
theorem zeroStake : (Tryd.prog.info? 51).map (·.zero) = some (some (.agg (arr 3 zStake))) := by kernel_rfl
theorem infoStake : (Tryd.prog.info? 51).map (fun i => (i.size, i.zero, i.bytes)) = some (3, some (.agg (arr 3 zStake)), 4) := by kernel_rfl
structure FitsStake (h : Nat → Int) : Prop where
  c0 : (-128 : Int) ≤ h 0 ∧ h 0 ≤ 127
  c1 : (-128 : Int) ≤ h 1 ∧ h 1 ≤ 127
  c2 : (-32768 : Int) ≤ h 2 ∧ h 2 ≤ 32767
def sStake (hs : Nat → Nat → Int) : Nat → Value := fun k => vStake (hs (k / 3)) (k % 3)
theorem sStake_row (hs : Nat → Nat → Int) (k j : Nat) (hj : j < 3) : sStake hs (k * 3 + j) = vStake (hs k) j := by
  unfold sStake
  rw [show (k * 3 + j) / 3 = k by omega, show (k * 3 + j) % 3 = j by omega]
def StakeArg (W : World) (v : Value) (n : Nat) (hs : Nat → Nat → Int) : Prop :=
  (n = 0 ∧ v = .slice none 0 0) ∨ ∃ b o c, v = .slice (some ⟨b, o, none⟩) n c ∧ Lies W b o (n * 3) (sStake hs)
theorem StakeArg.below {w W : World} {v : Value} {n : Nat} {hs : Nat → Nat → Int} (h : StakeArg w v n hs) (hb : Below w.heap.size w W) : StakeArg W v n hs := by
  rcases h with h | ⟨b, o, c, e, h⟩
  · exact .inl h
  · exact .inr ⟨b, o, c, e, h.below hb⟩
theorem spStake0 (h : Nat → Int) : arr 2 (fun k => vStake h (0 + k)) = arr 2 (sp (h 0) (h 1)) := arr_congr fun k hk => by
  rcases (show k = 0 ∨ k = 1 by omega) with rfl | rfl <;> rfl
section
variable {H : Type} {enc : TypeId × Value → H} {w : World} {base : Nat} {spare : Nat → Bool} {held : Bool}
end

/-- A new list. -/
def GivenStake (n : Nat) (hs : Nat → Nat → Int) (w : World) (e : Ending) (w' : World) : Prop := ∃ b, e = .returned (.slice (some ⟨b, 0, none⟩) n n) ∧ w.heap.size ≤ b ∧ At w' b (n * 3) (sStake hs) ∧ Below w.heap.size w w'
end Go.Proofs.YtaaphdbaocjecaaDoor

/-
  PLAIN: a read of a block that a drawn region writes; a slice literal of one element in it.
-/
namespace Go.Proofs.YtaaphdbaocjecaaDoor
open Go Go.RowKit Go.BigFrame

section
variable {P : Program} {o : Oper} {a : Act} {w : Base} {L x : Blocks} {K : Act → (World → Prop) → Prop}
/-- A read out of a block that the region writes later. -/
theorem step_getx (ty : TypeId) (y : Operand) (ho : o.op = .load ty y) (b off : Nat) (hx : a.eval y = .pointer (some ⟨b, off, none⟩)) (i : Nat) {n : Nat} {f : Nat → Value} (hi : x[i]? = some (b, n, f)) (hT : CellT P ty) (hle : off < n) (v : Value) (hv : f off = v)
    (h : K (a.put o.dst v) (Mem w (x ++ L))) : stepT P (Mem w L) o a (Mem w (x ++ L)) K := by
  have hil : i < x.length := (List.getElem?_eq_some_iff.1 hi).1
  have hi' : (x ++ L)[i]? = some (b, n, f) := by rw [List.getElem?_append_left hil]; exact hi
  intro W hM
  have hc := (hM.ats i _ _ _ hi').cell hle
  rw [hv] at hc
  refine .inl ⟨_, _, W, .inl ?_, kept_mem w L x, hM, h⟩
  unfold execOp
  simp only [ho, hx, Instr.loadAt, Instr.sureAddr, Sem.run_bind, Sem.run_pure, Result.andThen_ok, run_load_cell hT hc]
theorem step_lit1 (t e : TypeId) (y : Operand) (ho : o.op = .buildSlice t 1 #[(0, y)]) (u : Value) (hx : a.eval y = u) (h0 : u.oneCell' = true) (z : Value)
    (hu : P.underlying t = some (.slice e)) (hz : (P.info? e).map (fun i => (i.size, i.zero)) = some (1, some z))
    (h : ∀ b, w.B ≤ b → K (a.put o.dst (.slice (some ⟨b, 0, none⟩) 1 1)) (Mem w (((b, 1, fun _ => u) :: x) ++ L))) : stepT P (Mem w L) o a (Mem w (x ++ L)) K := by
  obtain ⟨ie, hie, hq⟩ := Option.map_eq_some_iff.1 hz
  simp only [Prod.mk.injEq] at hq
  refine fun W hW => .inl ⟨_, _, _, .inl ?_, kept_mem w L ((W.heap.size, 1, fun _ => u) :: x), hW.alloc e 1 _, h _ hW.size⟩
  have hf : Instr.fill (fun i => some (i * ie.size, ie.size)) ((Array.range (1 * ie.size)).map (z.cells[· % z.cells.size]!)) (Array.map (fun x => match x with | (i, x) => (i, a.eval x)) #[(0, y)]).toList = some (arr 1 fun _ => u) := by
    rw [hq.1]
    rw [show (Array.map (fun x => match x with | (i, x) => (i, a.eval x)) #[(0, y)]).toList = [(0, u)] by simp [hx]]
    rw [fill_cell h0 (off := 0) rfl (by simp), Instr.fill]
    refine congrArg some (arr_ext (by simp) (fun k hk => ?_))
    have : k = 0 := by omega
    subst this
    simp
  unfold execOp
  simp only [ho, Sem.run_bind, run_buildSlice W t e 1 _ (arr 1 fun _ => u) ie z hu hie hq.2 (by rw [hq.1]; omega) (by rw [hq.1]; omega) hf, Result.andThen_ok]
  rfl
end
end Go.Proofs.YtaaphdbaocjecaaDoor

/-
  PLAIN: in a drawn region, a slice literal of two elements; a call that gives blocks of its own, behind those of the region.
-/
namespace Go.Proofs.YtaaphdbaocjecaaDoor
open Go Go.RowKit Go.BigFrame

section
variable {P : Program} {o : Oper} {a : Act} {w : Base} {L x : Blocks} {K : Act → (World → Prop) → Prop}
theorem step_lit2 (t e : TypeId) (y y' : Operand) (ho : o.op = .buildSlice t 2 #[(0, y), (1, y')]) (u v : Value) (hx : a.eval y = u) (hy : a.eval y' = v) (h0 : u.oneCell' = true) (h1 : v.oneCell' = true) (z : Value)
    (hu : P.underlying t = some (.slice e)) (hz : (P.info? e).map (fun i => (i.size, i.zero)) = some (1, some z))
    (h : ∀ b, w.B ≤ b → K (a.put o.dst (.slice (some ⟨b, 0, none⟩) 2 2)) (Mem w (((b, 2, twoV u v) :: x) ++ L))) : stepT P (Mem w L) o a (Mem w (x ++ L)) K := by
  obtain ⟨ie, hie, hq⟩ := Option.map_eq_some_iff.1 hz
  simp only [Prod.mk.injEq] at hq
  refine fun W hW => .inl ⟨_, _, _, .inl ?_, kept_mem w L ((W.heap.size, 2, twoV u v) :: x), hW.alloc e 2 _, h _ hW.size⟩
  have hf : Instr.fill (fun i => some (i * ie.size, ie.size)) ((Array.range (2 * ie.size)).map (z.cells[· % z.cells.size]!)) (Array.map (fun x => match x with | (i, x) => (i, a.eval x)) #[(0, y), (1, y')]).toList = some (arr 2 (twoV u v)) := by
    rw [hq.1]
    rw [show (Array.map (fun x => match x with | (i, x) => (i, a.eval x)) #[(0, y), (1, y')]).toList = [(0, u), (1, v)] by simp [hx, hy]]
    rw [fill_cell h0 (off := 0) rfl (by simp), fill_cell h1 (off := 1) rfl (by simp), Instr.fill]
    refine congrArg some (arr_ext (by simp) (fun k hk => ?_))
    have : k = 0 ∨ k = 1 := by omega
    rcases this with rfl | rfl <;> simp [twoV]
  unfold execOp
  simp only [ho, Sem.run_bind, run_buildSlice W t e 2 _ (arr 2 (twoV u v)) ie z hu hie hq.2 (by rw [hq.1]; omega) (by rw [hq.1]; omega) hf, Result.andThen_ok]
  rfl
theorem step_call_back {β : Type} (vb : β → Value) (Bk : β → Blocks) (good : β → Prop) (h : ∃ fn args, (∀ W, (execOp a.eval o).run P W = .ok (.enter fn args) W) ∧ (∀ W, Mem w (x ++ L) W → Calls P fn args W fun e w' => ∃ y, e = .returned (vb y) ∧ good y ∧ Mem (Base.of W) (Bk y) w' ∧ ∀ p, p ∈ Bk y → W.heap.size ≤ p.1) ∧
    ∀ y, good y → (∀ p, p ∈ Bk y → w.B ≤ p.1) → K (a.put o.dst (vb y)) (Mem w ((x ++ Bk y) ++ L))) : stepT P (Mem w L) o a (Mem w (x ++ L)) K := by
  obtain ⟨fn, args, hr, hc, h⟩ := h
  refine fun W hW => .inr ⟨fn, args, hr W, (hc W hW).mono fun e w' ⟨y, he, hg, hN, hge⟩ => ⟨vb y, _, he, kept_mem w L (x ++ Bk y), ?_, h y hg (fun p hp => Nat.le_trans hW.size (hge p hp))⟩⟩
  refine (hW.back hN hge).shuf ?_
  rw [List.append_assoc, List.append_assoc]
  exact List.perm_append_comm.append_left x
end
end Go.Proofs.YtaaphdbaocjecaaDoor

/-
  impl.parseStake by contract.
-/
namespace Go.Proofs.YtaaphdbaocjecaaDoor
open Go Go.RowKit Go.BigFrame

/-- What a word tells of a stake, loosely. -/
def stP (l : List UInt8) : List UInt8 := (Lib.cut l [47]).1
def stN (l : List UInt8) : List UInt8 := (Lib.cut l [47]).2.1
def stOk (l : List UInt8) : Bool := spOk (stP l) && pOk 16 (stN l)
def st3 (x y r : Int) : Nat → Int := fun k => match k with | 0 => x | 1 => y | _ => r
def stV (l : List UInt8) : Nat → Int := st3 (spX (stP l)) (spY (stP l)) (IntKind.i16.wrap (pVal 16 (stN l)))
theorem run_buildSt (x y r : Int) (W : World) : (Instr.build 51 #[(0, .agg (arr 2 (sp x y))), (1, .int .i16 r)]).run Tryd.prog W = .ok (.agg (arr 3 (vStake (st3 x y r)))) W := by kernel_rfl
theorem exec_buildSt {o : Oper} {a : Act} (u v : Operand) (ho : o.op = .build 51 #[(0, u), (1, v)]) (x y r : Int) (hu : a.eval u = .agg (arr 2 (sp x y))) (hv : a.eval v = .int .i16 r) (W : World) : (execOp a.eval o).run Tryd.prog W = .ok (.value (.agg (arr 3 (vStake (st3 x y r))))) W := by
  unfold execOp
  have e : (Array.map (fun (z : Nat × Operand) => match z with | (i, x) => (i, a.eval x)) #[(0, u), (1, v)]) = #[(0, .agg (arr 2 (sp x y))), (1, .int .i16 r)] := by simp [hu, hv]
  simp only [ho, e, Sem.run_bind, Sem.run_pure, run_buildSt, Result.andThen_ok]
set_option maxRecDepth 100000 in
set_option maxHeartbeats 2000000 in
theorem parseStake_any {a : Nat → Addr} (l : List UInt8) (hl : l.length ≤ 1048576) (w : World) (hE : PEnv a w) :
    Calls Tryd.prog 21 #[.string (bs l)] w fun e w' => ∃ v N, e = .returned (.tuple #[.agg (arr 3 (vStake (stV l))), v]) ∧ EvK a 2 (stOk l) v N ∧ Mem (Base.of w) N w' ∧ ∀ p, p ∈ N → w.heap.size ≤ p.1 := by
  have hM := Mem.nil w
  have HE := Lib.hid hE
  have l1 := cut_len1 l [47]
  have l2 := cut_len2 l [47]
  have HC := Lib.hid (cut_any l 47 hl)
  have HV0 := Lib.hid (show stV l = st3 (spX (stP l)) (spY (stP l)) (IntKind.i16.wrap (pVal 16 (stN l))) from rfl)
  have HO := Lib.hid (show stOk l = (spOk (stP l) && pOk 16 (stN l)) from rfl)
  rw [show (Lib.cut l [47]).1 = stP l from rfl] at HC l1
  rw [show (Lib.cut l [47]).2.1 = stN l from rfl] at HC l2
  generalize (Lib.cut l [47]).2.2 = cb at HC
  obtain ⟨u, hu⟩ : ∃ u, stP l = u := ⟨_, rfl⟩
  obtain ⟨v, hv⟩ : ∃ v, stN l = v := ⟨_, rfl⟩
  rw [hu] at HC l1 HV0 HO
  rw [hv] at HC l2 HV0 HO
  have HU := Lib.hid (fun (W : World) (h : PEnv a W) => parseSpot_any u (by omega) W h)
  have HV := Lib.hid (fun (W : World) (h : PEnv a W) => parseNumber_any 16 16 (.inr ⟨rfl, rfl⟩) v (by omega) W h)
  rw [HV0.out, HO.out]
  obtain ⟨e2, he2⟩ : ∃ e2, evN a (pOk 16 v) = e2 := ⟨_, rfl⟩
  have K2 := Lib.hid (show ∀ K, EvK a 1 (pOk 16 v) e2 K by rw [← he2]; exact fun K => evN_k _ _ _ _)
  rw [he2] at HV
  generalize pVal 16 v = r at HV ⊢
  generalize spX u = x at HU ⊢
  generalize spY u = y at HU ⊢
  generalize spOk u = ou at HU ⊢
  generalize pOk 16 v = ov at K2 ⊢
  clear he2 HV0 HO hu hv hE
  have tk_b2 : True := trivial; have tk_b7 : True := trivial; have tk_n2 : True := trivial; have tk_l2 : True := trivial; have tk_s2 : True := trivial; have tk_s7 : True := trivial
  go_enter Tryd.func21, Tryd.ntmps21
  go_wp2_with (first | (have _t := tk_b2; refine wpList_zero rfl _ rfl zeroStake hM ?_; intro b2 W' hb2 hM'; clear hM tk_b2; have hM := hM'; clear hM') | (go_at_call 24; refine (HC.out _ (HE.out.max.below hM.below)).mono ?_; rintro e W' ⟨rfl, hb'⟩; have hM' := hM.call hb'; clear hM hb'; have hM := hM'; clear hM') | (go_at_call 32; refine (HU.out _ (HE.out.below hM.below)).mono ?_; rintro e W' ⟨e1, N, rfl, hv, hN, hge⟩; have Hv := Lib.hid hv; have Hg := Lib.hid (fun p hp => Nat.le_trans hM.size (hge p hp)); have hM' := hM.back hN hge; simp only [List.cons_append, List.nil_append] at hM'; clear hM hN hge hv; have hM := hM'; clear hM') | (have _t := tk_b7; refine wpList_zero rfl _ rfl (zeroTab _ _ _ rfl) hM ?_; intro b7 W' hb7 hM'; clear hM tk_b7; have hM := hM'; clear hM') | (have _t := tk_s7; (refine wpList_lay rfl _ _ _ rfl _ _ rfl _ _ rfl hM 0 rfl (by assumption) (rowTab _ _ rfl) (by omega) ?_ ?_; (first | (intro _ _; rfl) | (intro k _; exact h1 _) | (intro k _; simp only [lay, upd]; (repeat' split) <;> first | exact h1 _ | rfl)); intro W' hM'; clear hM; have hM := hM'; clear hM'; simp only [List.set] at hM); clear tk_s7) | (have _t := tk_n2; (go_at_call 26; refine (HV.out _ (HE.out.below hM.below)).mono ?_; rintro e W' ⟨rfl, hb'⟩; have hM' := hM.call hb'; clear hM hb'; have hM := hM'; clear hM'); clear tk_n2))
  have hM1 := hM.re 0 rfl (sp x y) (fun j hj => by simp [lay, hj])
  simp only [List.set_cons_zero] at hM1
  clear hM
  have hM := hM1
  clear hM1
  have el : arr 2 (fun j => sp x y (0 + j)) = arr 2 (sp x y) := arr_congr fun j hj => by rw [Nat.zero_add]
  have hM1 := hM.swap
  clear hM
  have hM := hM1
  clear hM1
  refine region_readsX [0, 1, 2, 4, 5, 3] #[true, true, true, true, true, true, false, false, false, false] 4 [(b2, 3, zStake)] (by kernel_rfl) (by kernel_rfl) (by kernel_rfl) hM ?_
  clear hM
  iterate 5 (refine qs_plain rfl rfl ?_; first | (refine b_get _ _ rfl _ _ rfl 0 rfl (rowTab _ 2 rfl) (by omega) ?_; rw [el]; (simp only [Act.put, List.setIfInBounds_toArray, List.set_cons_succ, List.set_cons_zero])) | (refine b_val ?_; apply Exists.intro; refine ⟨fun W => ?_, ?_⟩; (go_simp; (try simp only [rfl, if_true]); rfl); (simp only [Act.put, List.setIfInBounds_toArray, List.set_cons_succ, List.set_cons_zero])))
  refine qs_plain rfl rfl ?_
  refine b_val ⟨.agg (arr 3 (vStake (st3 x y (IntKind.i16.wrap r)))), fun W => ?_, ?_⟩
  · exact exec_buildSt _ _ rfl _ _ _ rfl rfl W
  simp only [Act.put, List.setIfInBounds_toArray, List.set_cons_succ, List.set_cons_zero]
  with_reducible refine qs_nil ?_
  (refine mix_one (i := 6) (by kernel_rfl) rfl (by kernel_rfl) rfl ?_)
  refine step_lit2 _ _ _ _ rfl e1 e2 rfl rfl Hv.out.one ((K2.out []).one) _ errs_under err_info2 ?_
  intro bn hbn
  simp only [Act.put, List.setIfInBounds_toArray, List.set_cons_succ, List.set_cons_zero]
  (refine mix_one (i := 7) (by kernel_rfl) rfl (by kernel_rfl) rfl ?_)
  refine step_call_back (β := Value × Blocks) (fun y => y.1) (fun y => y.2) (fun y => EvK a 2 (ou && ov) y.1 (y.2 ++ N)) ?_
  apply Exists.intro; apply Exists.intro
  refine ⟨fun W => ?_, fun W hM => ?_, ?_⟩
  · go_simp; exact ⟨rfl, rfl⟩
  · refine (join2_any 1 ou ov e1 e2 N bn 2 W Hv.out (K2.out N) (hM.ats 0 _ _ _ rfl)).mono ?_
    rintro e w' ⟨v, N2, rfl, h1, h2, h3⟩
    exact ⟨(v, N2), rfl, h1, h2, h3⟩
  rintro ⟨ve, N2⟩ hve hge2
  have Hve := Lib.hid hve
  have Hg2 := Lib.hid hge2
  clear hve hge2
  simp only [Act.put, List.setIfInBounds_toArray, List.set_cons_succ, List.set_cons_zero]
  (refine mix_one (i := 8) (by kernel_rfl) rfl (by kernel_rfl) rfl ?_)
  refine step_lay _ _ _ rfl _ _ rfl _ _ rfl 1 rfl (by assumption) rowStake (by omega) (fun _ _ => rfl) ?_
  simp only [Act.put, List.setIfInBounds_toArray, List.set_cons_succ, List.set_cons_zero]
  (refine mix_one (i := 9) (by kernel_rfl) rfl (by kernel_rfl) rfl ?_)
  (refine step_val ?_; apply Exists.intro; refine ⟨fun W => ?_, ?_⟩; (go_simp; rfl); (simp only [Act.put, List.setIfInBounds_toArray, List.set_cons_succ, List.set_cons_zero]))
  (refine mix_end (by kernel_rfl) ?_; intro W' hM; simp only [List.cons_append, List.nil_append] at hM)
  simp only [List.set_cons_succ, List.set_cons_zero, List.cons_append, List.nil_append] at hM
  have hM1 := hM.drop.re 0 rfl (vStake (st3 x y (IntKind.i16.wrap r))) (fun j hj => by simp [lay, hj])
  simp only [List.set_cons_zero] at hM1
  go_wp2
  refine bodyPost_ret (results_at2 rfl _ rfl (hM1.ats 0 _ _ _ rfl) rowStake _ rfl) rfl ?_
  refine ⟨ve, rfl, N2 ++ N, Hve.out, (hM1.drop.shuf List.perm_middle).drop, fun p1 p2 p3 hp => ?_⟩
  rcases List.mem_append.1 hp with h | h
  · exact Hg2.out _ h
  · exact Hg.out _ h
end Go.Proofs.YtaaphdbaocjecaaDoor

/-
  spec.l01Ok by contract: is a pasture valid?
-/
namespace Go.Proofs.YtaaphdbaocjecaaDoor
open Go Go.RowKit Go.BigFrame

/-- A cell's grass is as it may be. -/
def cellOk (g : Nat → Int) (y x : Nat) : Bool := inB 0 1000 (g (2 + y * 10 + x)) && (decide (g (2 + y * 10 + x) ≤ 0) || isB g x y)
def mask (g : Nat → Int) : Int := IntKind.u16.wrap (IntKind.u16.wrap (2 ^ (g 0).toNat) - 1)
def badE (g : Nat → Int) (k : Nat) : Bool := bits .andNot .u16 (g (102 + k)) (if (k : Int) < g 1 then mask g / 2 else 0) != 0
def badS (g : Nat → Int) (k : Nat) : Bool := bits .andNot .u16 (g (112 + k)) (if (k : Int) < g 1 - 1 then mask g else 0) != 0
def rowOk (g : Nat → Int) (y : Nat) : Bool := (List.range 10).all (cellOk g y) && !badE g y && !badS g y
/-- Is a pasture valid? -/
def okB (g : Nat → Int) : Bool := inB 1 10 (g 0) && inB 1 10 (g 1) && (List.range 10).all (rowOk g)

theorem badE_in {g : Nat → Int} {k : Nat} (h : (k : Int) < g 1) : badE g k = (bits .andNot .u16 (g (102 + k)) (IntKind.u16.wrap (IntKind.u16.wrap (2 ^ (g 0).toNat) - 1) / 2) != 0) := by simp [badE, mask, h]
theorem badE_out {g : Nat → Int} {k : Nat} (h : g 1 ≤ (k : Int)) : badE g k = (bits .andNot .u16 (g (102 + k)) 0 != 0) := by
  have : ¬ (k : Int) < g 1 := by omega
  simp [badE, this]
theorem badS_in {g : Nat → Int} {k : Nat} (h : (k : Int) < g 1 - 1) : badS g k = (bits .andNot .u16 (g (112 + k)) (IntKind.u16.wrap (IntKind.u16.wrap (2 ^ (g 0).toNat) - 1)) != 0) := by simp [badS, mask, h]
theorem badS_out {g : Nat → Int} {k : Nat} (h : g 1 - 1 ≤ (k : Int)) : badS g k = (bits .andNot .u16 (g (112 + k)) 0 != 0) := by
  have : ¬ (k : Int) < g 1 - 1 := by omega
  simp [badS, this]
theorem rowOk_cell {g : Nat → Int} {y x : Nat} (hx : x < 10) (h : cellOk g y x = false) : rowOk g y = false := by
  have : (List.range 10).all (cellOk g y) = false := by rw [List.all_eq_false]; exact ⟨x, by simpa using hx, by rw [h]; decide⟩
  simp [rowOk, this]
theorem rowOk_E {g : Nat → Int} {y : Nat} (h : badE g y = true) : rowOk g y = false := by simp [rowOk, h]
theorem rowOk_S {g : Nat → Int} {y : Nat} (h : badS g y = true) : rowOk g y = false := by simp [rowOk, h]
theorem rowOk_yes {g : Nat → Int} {y : Nat} (hc : ∀ x, x < 10 → cellOk g y x = true) (hE : badE g y = false) (hS : badS g y = false) : rowOk g y = true := by
  have : (List.range 10).all (cellOk g y) = true := by rw [List.all_eq_true]; intro x hx; exact hc x (by simpa using hx)
  simp [rowOk, this, hE, hS]
theorem okB_no {g : Nat → Int} {y : Nat} (hy : y < 10) (h : rowOk g y = false) : okB g = false := by
  have : (List.range 10).all (rowOk g) = false := by rw [List.all_eq_false]; exact ⟨y, by simpa using hy, by rw [h]; decide⟩
  simp [okB, this]
theorem okB_yes {g : Nat → Int} (b0 : inB 1 10 (g 0) = true) (b1 : inB 1 10 (g 1) = true) (h : ∀ y, y < 10 → rowOk g y = true) : okB g = true := by
  have : (List.range 10).all (rowOk g) = true := by rw [List.all_eq_true]; intro x hx; exact h x (by simpa using hx)
  simp [okB, this, b0, b1]

def OkIn (w : World) (g : Nat → Int) (bp k : Nat) (x : Value) (wr : World) : Prop := ∃ j : Nat, j ≤ 10 ∧ x = .int .i8 j ∧ (∀ i, i < j → cellOk g k i = true) ∧ Mem w [(bp, 122, pas g)] wr
theorem OkIn.step {w : World} {g : Nat → Int} {bp k j : Nat} {W : World} (hj : j < 10) (h : ∀ i, i < j → cellOk g k i = true) (hc : cellOk g k j = true) (hM : Mem w [(bp, 122, pas g)] W) : OkIn w g bp k (.int .i8 ((j : Int) + 1)) W :=
  ⟨j + 1, by omega, by go_num, fun i hi => by
    by_cases e : i = j
    · rw [e]; exact hc
    · exact h i (by omega), hM⟩

end Go.Proofs.YtaaphdbaocjecaaDoor

/-
  The greatest pasture, with no grass: how it is built, what it says of cells.
-/
namespace Go.Proofs.YtaaphdbaocjecaaDoor
open Go Go.RowKit Go.BigFrame

def gMost : Nat → Int := fun k => if k < 2 then 10 else 0
theorem run_greatest (W : World) : (Instr.build 76 #[(0, .int .i8 10), (1, .int .i8 10)]).run Tryd.prog W = .ok (.agg (arr 122 (pas gMost))) W := by kernel_rfl
theorem wpList_greatest {ops : Array Oper} {rest : List Oper} {o : Oper} {a : Act} {W : World} {Q : Exit → Act → World → Prop} (hgd : o.guard = none) (x y : Operand) (ho : o.op = .build 76 #[(0, x), (1, y)])
    (hx : a.eval x = .int .i8 10) (hy : a.eval y = .int .i8 10)
    (h : wpList Tryd.prog ops Q rest (a.put o.dst (.agg (arr 122 (pas gMost)))) W) : wpList Tryd.prog ops Q (o :: rest) a W := by
  refine wpList_plain hgd fun K hK => ?_
  have hr := run_greatest W
  unfold Oper.wp execOp
  simp only [ho, List.map_toArray, List.map_cons, List.map_nil, hx, hy, Sem.run_bind, Sem.run_pure, hr, Result.andThen_ok]
  exact hK _ _ h
theorem fits_most : Fits gMost := ⟨by decide, by decide, fun k h1 h2 => by simp [gMost]; split <;> omega, fun k h1 h2 => by simp [gMost]; split <;> omega⟩
theorem okB_most : okB gMost = true := by kernel_rfl
theorem isB_most (x y : Int) : isB gMost x y = (inB 0 9 x && inB 0 9 y) := rfl
end Go.Proofs.YtaaphdbaocjecaaDoor

/-
  laws.eqSpot on what is equal.
-/
namespace Go.Proofs.YtaaphdbaocjecaaDoor
open Go Go.RowKit Go.BigFrame

set_option maxHeartbeats 400000 in
theorem eqSpot_same (x y : Int) (w : World) :
    Calls Tryd.prog 36 #[.agg (arr 2 (sp x y)), .agg (arr 2 (sp x y))] w fun e w' => e = .returned (.bool true) ∧ Below w.heap.size w w' := by
  have hM := Mem.nil w
  have e0 : sp x y 0 = .int .i8 x := rfl
  have e1 : sp x y 1 = .int .i8 y := rfl
  have tk_b1 : True := trivial; have tk_b2 : True := trivial
  go_enter Tryd.func36, Tryd.ntmps36
  go_wp2_with (first | (have _t := tk_b1; refine wpList_box rfl _ _ rfl _ _ rfl hM ?_; intro b1 W' hb1 hM'; clear hM tk_b1; have hM := hM'; clear hM') | (have _t := tk_b2; refine wpList_box rfl _ _ rfl _ _ rfl hM ?_; intro b2 W' hb2 hM'; clear hM tk_b2; have hM := hM'; clear hM') | (refine wpList_get1 rfl _ _ rfl _ _ rfl hM 1 rfl (cellTab _ rfl) (by omega) _ rfl ?_) | (refine wpList_get1 rfl _ _ rfl _ _ rfl hM 0 rfl (cellTab _ rfl) (by omega) _ rfl ?_))
  go_ret
  exact ⟨rfl, hM.below⟩

end Go.Proofs.YtaaphdbaocjecaaDoor

