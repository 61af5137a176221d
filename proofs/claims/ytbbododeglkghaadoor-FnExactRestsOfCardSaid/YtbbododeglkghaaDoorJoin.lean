/-
  errors.Join of errors that are all the same one, or nil, by contract.
-/
import Derived.Test.YtbbododeglkghaaDoorLit1
import Derived.Test.YtbbododeglkghaaDoorNeq0
namespace Go.Proofs.YtbbododeglkghaaDoor
open Go Go.RowKit Go.BigFrame

/-- Errors told by whether they are there; x the one that it is. -/
def errE (x : Addr) (es : Nat → Bool) : Nat → Value := fun k => if es k then errV x else .nilIface
theorem errE_one (x : Addr) (es : Nat → Bool) (k : Nat) : (errE x es k).oneCell' = true := by unfold errE; split <;> rfl
/-- How many of the first k are there. -/
def cntE (es : Nat → Bool) : Nat → Nat
  | 0 => 0
  | k + 1 => cntE es k + (if es k then 1 else 0)
theorem cntE_le (es : Nat → Bool) : ∀ k, cntE es k ≤ k
  | 0 => by simp [cntE]
  | k + 1 => by have := cntE_le es k; simp only [cntE]; split <;> omega
theorem cntE_mono (es : Nat → Bool) : ∀ {k n : Nat}, k ≤ n → cntE es k ≤ cntE es n
  | k, 0, h => by obtain rfl : k = 0 := by omega
                  exact Nat.le_refl _
  | k, n + 1, h => by
    by_cases e : k = n + 1
    · rw [e]; exact Nat.le_refl _
    · have := cntE_mono es (show k ≤ n by omega); simp only [cntE]; omega
theorem cntE_yes {es : Nat → Bool} {k : Nat} (h : es k = true) : cntE es (k + 1) = cntE es k + 1 := by simp [cntE, h]
theorem cntE_no {es : Nat → Bool} {k : Nat} (h : es k = false) : cntE es (k + 1) = cntE es k := by simp [cntE, h]

theorem upd_one (f : Nat → Value) (v : Value) : ∀ k, k < 1 → upd f 0 v k = v := fun k hk => by simp [upd, show k = 0 by omega]
/-- A joined error's value; what lies behind it. -/
def joinV (b : Nat) : Value := .iface 101 (.pointer (some ⟨b, 0, none⟩))
def JoinAt (W : World) (b : Nat) (x : Addr) (c : Nat) : Prop := ∃ eb cc F, At W b 1 (fun _ => .slice (some ⟨eb, 0, none⟩) c cc) ∧ At W eb (cc * 1) F ∧ b ≠ eb ∧ c ≤ cc ∧ ∀ j, j < c → F j = errV x
theorem JoinAt.below {W W' : World} {b c : Nat} {x : Addr} (h : JoinAt W b x c) (hb : Below W.heap.size W W') : JoinAt W' b x c := by
  obtain ⟨eb, cc, F, h1, h2, h3⟩ := h
  exact ⟨eb, cc, F, h1.below hb h1.lt, h2.below hb h2.lt, h3⟩

theorem run_buildJ (v : Value) (W : World) (b : Option Addr) (n c : Nat) (hv : v = .slice b n c) : (Instr.build 103 #[(0, v)]).run Tryd.prog W = .ok (.agg (arr 1 fun _ => v)) W := by
  subst hv; kernel_rfl
theorem wpList_buildJ {ops : Array Oper} {rest : List Oper} {o : Oper} {a : Act} {W : World} {Q : Exit → Act → World → Prop} (hgd : o.guard = none) (x : Operand) (ho : o.op = .build 103 #[(0, x)]) (b : Option Addr) (n c : Nat) (hx : a.eval x = .slice b n c)
    (h : wpList Tryd.prog ops Q rest (a.put o.dst (.agg (arr 1 fun _ => .slice b n c))) W) : wpList Tryd.prog ops Q (o :: rest) a W := by
  refine wpList_plain hgd fun K hK => ?_
  unfold Oper.wp execOp
  have e : (Array.map (fun (z : Nat × Operand) => match z with | (i, x) => (i, a.eval x)) #[(0, x)]) = #[(0, .slice b n c)] := by simp [hx]
  simp only [ho, e, Sem.run_bind, Sem.run_pure, run_buildJ _ W b n c rfl, Result.andThen_ok]
  exact hK _ _ h
theorem err_info : (Tryd.prog.info? 67).map (fun i => (i.size, i.zero, i.bytes)) = some (1, some .nilIface, 16) := by kernel_rfl
theorem err_info2 : (Tryd.prog.info? 67).map (fun i => (i.size, i.zero)) = some (1, some .nilIface) := by kernel_rfl
theorem errs_under : Tryd.prog.underlying 100 = some (.slice 67) := Tryd.underlying100

def JoinIn (w : World) (bl m n : Nat) (x : Addr) (es : Nat → Bool) (sb k : Nat) (wr : World) : Prop :=
  ∃ eb c F, (∀ j, j < cntE es k * 1 → F j = errV x) ∧ cntE es k ≤ c ∧ w.heap.size ≤ eb ∧ Mem w [(eb, c * 1, F), (sb, 1, fun _ => .slice (some ⟨eb, 0, none⟩) (cntE es k) c), (bl, m, errE x es)] wr

set_option maxRecDepth 100000 in
set_option maxHeartbeats 2000000 in
theorem join_none (x : Addr) (es : Nat → Bool) (bl m c : Nat) (hm : m ≤ 3) (h0 : cntE es m = 0) (w : World) (hA : At w bl m (errE x es)) :
    Calls Tryd.prog 56 #[.slice (some ⟨bl, 0, none⟩) m c] w fun e w' => e = .returned .nilIface ∧ Below w.heap.size w w' := by
  have hM : Mem w [(bl, m, errE x es)] w := (Mem.nil w).old hA (fun i p h => by simp at h)
  have hno : ∀ k, k < m → es k = false := fun k hk => by
    have := cntE_mono es (show k + 1 ≤ m by omega)
    cases e : es k
    · rfl
    · rw [cntE_yes e] at this; omega
  have Hno := Lib.hid hno
  clear hno h0 hA
  go_enter Tryd.func56, Tryd.ntmps56
  go_wp2
  go_loopw [3, 11] (fun n i wr => ∃ k : Nat, k ≤ m ∧ n = .int .i64 0 ∧ i = .int .i64 k ∧ Mem w [(bl, m, errE x es)] wr) (fun _ i _ => m - (intOf i).toNat)
  case atStart => exact ⟨0, by omega, rfl, rfl, hM⟩
  case round =>
    clear hM
    obtain ⟨k, hk, rfl, rfl, hM⟩ := hrel
    by_cases hlt : k < m
    · have lk : (k : Int) < m := by omega
      have e0 : errE x es (k * 1) = .nilIface := by rw [Nat.mul_one]; simp [errE, Hno.out k hlt]
      have e0' : errE x es k = .nilIface := by simp [errE, Hno.out k hlt]
      go_wp2_with (first | (refine wpList_get1 rfl _ _ rfl _ _ rfl hM 0 rfl (cellTab _ rfl) (by omega) _ (by first | exact e0 | exact e0') ?_))
      go_roundw
      case rel => exact ⟨k + 1, by omega, rfl, by go_num, hM⟩
      case measure => simp [intOf]; omega
    · obtain rfl : k = m := by omega
      go_wp2
      go_ret
      exact ⟨rfl, hM.below⟩

theorem errE_yes {x : Addr} {es : Nat → Bool} {k : Nat} (h : es k = true) : errE x es k = errV x := by simp [errE, h]
theorem errE_no {x : Addr} {es : Nat → Bool} {k : Nat} (h : es k = false) : errE x es k = .nilIface := by simp [errE, h]
set_option maxRecDepth 100000 in
set_option maxHeartbeats 4000000 in
theorem join_some (x : Addr) (es : Nat → Bool) (bl m c : Nat) (hm : m ≤ 3) (h0 : 0 < cntE es m) (w : World) (hA : At w bl m (errE x es)) :
    Calls Tryd.prog 56 #[.slice (some ⟨bl, 0, none⟩) m c] w fun e w' => ∃ b, e = .returned (joinV b) ∧ JoinAt w' b x (cntE es m) ∧ Below w.heap.size w w' := by
  have hM : Mem w [(bl, m, errE x es)] w := (Mem.nil w).old hA (fun i p h => by simp at h)
  clear hA
  go_enter Tryd.func56, Tryd.ntmps56
  go_wp2
  go_loopw [3, 11] (fun n i wr => ∃ k : Nat, k ≤ m ∧ n = .int .i64 (cntE es k : Nat) ∧ i = .int .i64 k ∧ Mem w [(bl, m, errE x es)] wr) (fun _ i _ => m - (intOf i).toNat)
  case atStart => exact ⟨0, by omega, rfl, rfl, hM⟩
  case round =>
    clear hM
    obtain ⟨k, hk, rfl, rfl, hM⟩ := hrel
    by_cases hlt : k < m
    · have lk : (k : Int) < m := by omega
      have hle := cntE_le es k
      have c1 : IntKind.i64.wrap ((cntE es k : Nat) + 1 : Int) = ((cntE es k + 1 : Nat) : Int) := by rw [IntWalk.i64_in _ (by omega)]; rfl
      clear hle
      cases he : es k
      · have e0 : errE x es k = .nilIface := errE_no he
        have e1 : errE x es (k * 1) = .nilIface := by rw [Nat.mul_one]; exact e0
        go_wp2_with (first | (refine wpList_get1 rfl _ _ rfl _ _ rfl hM 0 rfl (cellTab _ rfl) (by omega) _ (by first | exact e0 | exact e1) ?_))
        go_roundw
        case rel => exact ⟨k + 1, by omega, by rw [cntE_no he], by go_num, hM⟩
        case measure => simp [intOf]; omega
      · have e0 : errE x es k = errV x := errE_yes he
        have e1 : errE x es (k * 1) = errV x := by rw [Nat.mul_one]; exact e0
        go_wp2_with (first | (refine wpList_get1 rfl _ _ rfl _ _ rfl hM 0 rfl (cellTab _ rfl) (by omega) _ (by first | exact e0 | exact e1) ?_))
        go_roundw
        case rel => exact ⟨k + 1, by omega, by rw [cntE_yes he]; exact congrArg _ (by omega), by go_num, hM⟩
        case measure => simp [intOf]; omega
    · obtain rfl : k = m := by omega
      have hle := cntE_le es k
      have hpos : ¬ ((cntE es k : Nat) : Int) = 0 := by omega
      have hpos2 : decide (((cntE es k : Nat) : Int) = 0) = false := decide_eq_false hpos
      have tk_q1 : True := trivial; have tk_q2 : True := trivial; have tk_q3 : True := trivial
      go_wp2_with (first | (have _t := tk_q1; refine wpList_make0 rfl _ _ _ _ rfl (cntE es k) rfl rfl .nilIface 16 rfl errs_under err_info (by omega) (by omega) hM ?_; intro eb W' heb hM'; clear hM tk_q1; have hM := hM'; clear hM') | (have _t := tk_q2; refine wpList_buildJ rfl _ rfl _ _ _ rfl ?_; clear tk_q2) | (have _t := tk_q3; refine wpList_box rfl _ _ rfl 1 _ rfl hM ?_; intro sb W' hsb hM'; clear hM tk_q3; have hM := hM'; clear hM'))
      have hJ : ∀ w0, w0 = w → ∀ wr, Mem w [(sb, 1, fun _ => .slice (some ⟨eb, 0, none⟩) 0 (cntE es k)), (eb, cntE es k * 1, fun _ => .nilIface), (bl, k, errE x es)] wr → JoinIn w bl k (cntE es k) x es sb 0 wr := fun _ _ wr h =>
        ⟨eb, cntE es k, fun _ => .nilIface, fun j hj => absurd hj (by simp [cntE]), by simp [cntE], heb, h.swap⟩
      go_loopw [28] (fun i wr => ∃ j : Nat, j ≤ k ∧ i = .int .i64 j ∧ JoinIn w bl k (cntE es k) x es sb j wr) (fun i _ => k - (intOf i).toNat)
      case atStart => exact ⟨0, by omega, rfl, hJ _ rfl _ hM⟩
      case round =>
        clear hM hJ
        obtain ⟨j, hj, rfl, eb1, c1, F1, hF1, hc1, heb1, hM⟩ := hrel
        by_cases hjl : j < k
        · have lj : (j : Int) < k := by omega
          have hlej := cntE_le es j
          cases he : es j
          · have e0 : errE x es j = .nilIface := errE_no he
            have e1 : errE x es (j * 1) = .nilIface := by rw [Nat.mul_one]; exact e0
            go_wp2_with (first | (refine wpList_get1 rfl _ _ rfl _ _ rfl hM 2 rfl (cellTab _ rfl) (by omega) _ (by first | exact e0 | exact e1) ?_))
            go_roundw
            case rel => exact ⟨j + 1, by omega, by go_num, eb1, c1, F1, by rw [cntE_no he]; exact hF1, by rw [cntE_no he]; exact hc1, heb1, by rw [cntE_no he]; exact hM⟩
            case measure => simp [intOf]; omega
          · have e0 : errE x es j = errV x := errE_yes he
            have e1 : errE x es (j * 1) = errV x := by rw [Nat.mul_one]; exact e0
            have tk_r1 : True := trivial; have tk_r2 : True := trivial; have tk_r3 : True := trivial; have tk_p1 : True := trivial; have tk_r4 : True := trivial
            go_wp2_with (first | (have _t := tk_r1; refine wpList_get1 rfl _ _ rfl _ _ rfl hM 2 rfl (cellTab _ rfl) (by omega) _ (by first | exact e0 | exact e1) ?_; clear tk_r1) | (have _t := tk_r2; (refine wpList_get1 rfl _ _ rfl _ _ rfl hM 1 rfl (cellTab _ rfl) (by omega) _ rfl ?_); clear tk_r2) | (have _t := tk_r3; refine wpList_lit1 rfl _ _ _ rfl (errV x) rfl rfl _ errs_under err_info2 hM ?_; intro bn W' hbn hM'; clear hM tk_r3; have hM := hM'; clear hM') | (have _t := tk_p1; refine wpList_push1 rfl _ _ _ rfl _ 1 _ _ errs_under err_info rfl (by omega) _ _ _ _ rfl heb1 hc1 (by omega) _ _ rfl (fun _ _ => rfl) hM (fun _ => errV x) hF1 (fun _ _ => rfl) ?_; intro bL cL FL W' hbL hcL hFL hM'; clear hM tk_p1; have hM := hM'; clear hM') | (have _t := tk_r4; (refine wpList_set1 rfl _ _ _ rfl _ _ rfl _ rfl ?_ hM 1 rfl (by assumption) (cellTab _ rfl) (by omega) ?_; (first | rfl | exact h1 _); intro W' hM'; clear hM; have hM := hM'; clear hM'; simp [List.set, Act.eval] at hM); clear tk_r4))
            have hM2 := hM.re (b := sb) (n := 1) 1 rfl (fun _ => .slice (some ⟨bL, 0, none⟩) (cntE es j + 1) cL) (upd_one _ _)
            simp only [List.set] at hM2
            go_roundw
            case rel => exact ⟨j + 1, by omega, by go_num, bL, cL, FL, by rw [cntE_yes he]; exact hFL, by rw [cntE_yes he]; exact hcL, hbL, by rw [cntE_yes he, Nat.mul_one]; exact hM2⟩
            case measure => simp [intOf]; omega
        · obtain rfl : j = k := by omega
          go_wp2
          go_ret
          exact ⟨sb, rfl, ⟨eb1, c1, F1, hM.ats 1 _ _ _ rfl, hM.ats 0 _ _ _ rfl, hM.apart 1 0 _ _ rfl rfl (by omega), hc1, fun i hi => hF1 i (by omega)⟩, hM.below⟩
end Go.Proofs.YtbbododeglkghaaDoor
