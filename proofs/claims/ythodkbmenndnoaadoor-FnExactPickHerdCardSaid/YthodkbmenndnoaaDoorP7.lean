/-
  Several texts in one: UpTo, Names, Neq0, Eql0, ToldG, OpenHd, HerdL, Demand, StepSet, Mutual.
-/
import Derived.Test.YthodkbmenndnoaaDoorP3
import Derived.Test.YthodkbmenndnoaaDoorP2
import Derived.Test.YthodkbmenndnoaaDoorP6
import Derived.Test.YthodkbmenndnoaaDoorP1
import Derived.Defers
import Derived.Recover
import Derived.WalkLawsBesides
/-
  impl.checkUpTo and impl.checkGrass by contracts.
-/
namespace Go.Proofs.YthodkbmenndnoaaDoor
open Go Go.RowKit Go.BigFrame

set_option maxHeartbeats 400000 in
theorem checkUpTo_no {a : Nat → Addr} (n m : Int) (w : World) (hE : Errs a w) (h : inB 0 m n = false) :
    Calls Tryd.prog 81 #[.int .i64 n, .int .i64 m] w fun e w' => e = .returned (errV (a 1)) ∧ Below w.heap.size w w' := by
  have v1 : w.cell? ⟨1, 0, none⟩ = some (errV (a 1)) := hE.vars 1 (by omega)
  have h' : ¬ (0 ≤ n ∧ n ≤ m) := of_decide_eq_false h
  clear hE h
  by_cases h0 : n < 0
  · clear h'
    go_enter Tryd.func81, Tryd.ntmps81
    go_wp2
    go_ret
    exact ⟨rfl, Below.refl _ _⟩
  · have h1 : m < n := by omega
    have d1 : decide (m < n) = true := decide_eq_true h1
    clear h'
    go_enter Tryd.func81, Tryd.ntmps81
    go_wp2
    go_ret
    exact ⟨rfl, Below.refl _ _⟩
set_option maxHeartbeats 400000 in
theorem checkUpTo_yes (n m : Int) (w : World) (h : inB 0 m n = true) :
    Calls Tryd.prog 81 #[.int .i64 n, .int .i64 m] w fun e w' => e = .returned .nilIface ∧ Below w.heap.size w w' := by
  obtain ⟨h0, h1⟩ := inB_true h
  have d0 : decide (n < 0) = false := decide_eq_false (by omega)
  have d1 : decide (m < n) = false := decide_eq_false (by omega)
  clear h h0 h1
  go_enter Tryd.func81, Tryd.ntmps81
  go_wp2
  go_ret
  exact ⟨rfl, Below.refl _ _⟩
end Go.Proofs.YthodkbmenndnoaaDoor

/-
  impl.isName, checkUpTo, (impl.member).isTold, spec.l06Name by contracts.
-/
namespace Go.Proofs.YthodkbmenndnoaaDoor
open Go Go.RowKit Go.BigFrame

theorem byteAt_eq {s : ByteArray} {k : Nat} (h : k < s.size) : (s[k]'h).toNat = byteAt s k := by
  unfold byteAt
  rw [ByteArray.getElem?_lt' s _ h]
  rfl
theorem byteAt_le (s : ByteArray) (k : Nat) : byteAt s k ≤ 255 := by
  by_cases h : k < s.size
  · rw [← byteAt_eq h]
    have := (s[k]'h).toNat_lt
    omega
  · unfold byteAt
    have : s[k]? = none := by simp; omega
    rw [this]; simp
theorem index_run {o : Oper} {a : Act} (x y : Operand) (ho : o.op = .index 9 x y) (s : ByteArray) (hx : a.eval x = .string s) (k : Nat) (hk : k < s.size) (hy : a.eval y = .int .i64 k) (W : World) :
    (execOp a.eval o).run Tryd.prog W = .ok (.value (.int .u8 (byteAt s k))) W := by
  have hb : 0 ≤ (k : Int) ∧ (k : Int) < s.size := by omega
  unfold execOp
  simp only [ho, hx, hy, Sem.run_bind, Sem.run_pure, run_index_string W 9 s .i64 (k : Int) Tryd.underlying9, dif_pos hb, Result.andThen_ok, Int.toNat_natCast]
  rw [byteAt_eq hk]
theorem wpList_index {ops : Array Oper} {rest : List Oper} {o : Oper} {a : Act} {W : World} {Q : Exit → Act → World → Prop} (hgd : o.guard = none) (x y : Operand) (ho : o.op = .index 9 x y) (s : ByteArray) (hx : a.eval x = .string s) (k : Nat) (hk : k < s.size) (hy : a.eval y = .int .i64 k) (v : Nat) (hv : byteAt s k = v)
    (h : wpList Tryd.prog ops Q rest (a.put o.dst (.int .u8 v)) W) : wpList Tryd.prog ops Q (o :: rest) a W := by
  refine wpList_plain hgd fun K hK => ?_
  unfold Oper.wp
  rw [index_run x y ho s hx k hk hy W, hv]
  exact hK _ _ h
theorem wpList_gindex {ops : Array Oper} {rest : List Oper} {o : Oper} {a : Act} {W : World} {Q : Exit → Act → World → Prop} (hw : Region.wanted o (yielded ops a.tmps) = true) (x y : Operand) (ho : o.op = .index 9 x y) (s : ByteArray) (hx : a.eval x = .string s) (k : Nat) (hk : k < s.size) (hy : a.eval y = .int .i64 k) (v : Nat) (hv : byteAt s k = v)
    (h : wpList Tryd.prog ops Q rest (a.put o.dst (.int .u8 v)) W) : wpList Tryd.prog ops Q (o :: rest) a W := by
  refine wpList_want hw fun K hK => ?_
  unfold Oper.wp
  rw [index_run x y ho s hx k hk hy W, hv]
  exact hK _ _ h

set_option maxRecDepth 100000 in
set_option maxHeartbeats 1000000 in
theorem isName_any (s : ByteArray) (w : World) :
    Calls Tryd.prog 82 #[.string s] w fun e w' => e = .returned (.bool (nameB s)) ∧ Below w.heap.size w w' := by
  by_cases h1 : s.size < 1
  · have d1 : decide ((s.size : Int) < 1) = true := decide_eq_true (by omega)
    have l1 : (s.size : Int) < 1 := by omega
    have hz : nameB s = false := by unfold nameB; rw [decide_eq_false (by omega)]; rfl
    rw [hz]
    go_enter Tryd.func82, Tryd.ntmps82
    go_wp2
    go_ret
    exact ⟨rfl, Below.refl _ _⟩
  by_cases h2 : 8 < s.size
  · have d1 : decide ((s.size : Int) < 1) = false := decide_eq_false (by omega)
    have d2 : decide ((8 : Int) < s.size) = true := decide_eq_true (by omega)
    have hz : nameB s = false := by unfold nameB; rw [decide_eq_false (by omega)]; rfl
    rw [hz]
    go_enter Tryd.func82, Tryd.ntmps82
    go_wp2
    go_ret
    exact ⟨rfl, Below.refl _ _⟩
  have d1 : decide ((s.size : Int) < 1) = false := decide_eq_false (by omega)
  have d2 : decide ((8 : Int) < s.size) = false := decide_eq_false (by omega)
  obtain ⟨n, hn⟩ : ∃ n, s.size = n := ⟨_, rfl⟩
  rw [hn] at h1 h2 d1 d2
  have Hn := Lib.hid hn
  have esz : (s.size : Int) = n := by omega
  clear hn
  go_enter Tryd.func82, Tryd.ntmps82
  go_wp2
  go_loop [14] (fun i => ∃ k : Nat, k ≤ n ∧ i = .int .i64 k ∧ Hid (∀ j, j < k → 97 ≤ byteAt s j ∧ byteAt s j ≤ 122)) (fun i => n - (intOf i).toNat)
  case atStart => exact ⟨0, by omega, rfl, Lib.hid (fun j hj => absurd hj (by omega))⟩
  case round =>
    obtain ⟨k, hk, rfl, hall⟩ := hrel
    by_cases hlt : k < n
    · have l2 : (k : Int) < n := by omega
      have hk2 : k < s.size := by rw [Hn.out]; exact hlt
      obtain ⟨v, hv⟩ : ∃ v, byteAt s k = v := ⟨_, rfl⟩
      by_cases c1 : v < 97
      · have e1 : decide ((v : Int) < 97) = true := decide_eq_true (by omega)
        have l1 : (v : Int) < 97 := by omega
        have HZ := Lib.hid (name_no hk2 (by omega))
        have Hv := Lib.hid hv
        clear hv
        go_wp2_with (first | (refine wpList_index rfl _ _ rfl s rfl k hk2 rfl v Hv.out ?_))
        go_ret
        rw [HZ.out]
        exact ⟨rfl, Below.refl _ _⟩
      by_cases c2 : 122 < v
      · have e1 : decide ((v : Int) < 97) = false := decide_eq_false (by omega)
        have e2 : decide ((122 : Int) < v) = true := decide_eq_true (by omega)
        have HZ := Lib.hid (name_no hk2 (by omega))
        have Hv := Lib.hid hv
        clear hv
        go_wp2_with (first | (refine wpList_index rfl _ _ rfl s rfl k hk2 rfl v Hv.out ?_) | (refine wpList_gindex ?_ _ _ rfl s rfl k hk2 rfl v Hv.out ?_; kernel_rfl))
        go_ret
        rw [HZ.out]
        exact ⟨rfl, Below.refl _ _⟩
      have e1 : decide ((v : Int) < 97) = false := decide_eq_false (by omega)
      have e2 : decide ((122 : Int) < v) = false := decide_eq_false (by omega)
      have HZ := Lib.hid (fun j (hj : j < k + 1) => show 97 ≤ byteAt s j ∧ byteAt s j ≤ 122 from by
        by_cases e : j = k
        · subst e; omega
        · exact hall.out j (by omega))
      have Hv := Lib.hid hv
      clear hv
      go_wp2_with (first | (refine wpList_index rfl _ _ rfl s rfl k hk2 rfl v Hv.out ?_) | (refine wpList_gindex ?_ _ _ rfl s rfl k hk2 rfl v Hv.out ?_; kernel_rfl))
      go_round
      case rel => exact ⟨k + 1, by omega, by go_num, HZ⟩
      case measure => simp [intOf]; omega
    · obtain rfl : k = n := by omega
      have hz : nameB s = true := by
        unfold nameB
        rw [decide_eq_true (by rw [Hn.out]; omega), nameU_iff.2 (by rw [Hn.out]; exact hall.out)]; rfl
      have HZ := Lib.hid hz
      clear hz
      go_wp2
      go_ret
      rw [HZ.out]
      exact ⟨rfl, Below.refl _ _⟩
end Go.Proofs.YthodkbmenndnoaaDoor

/-
  An error is not nil.
-/
namespace Go.Proofs.YthodkbmenndnoaaDoor
open Go Go.RowKit Go.BigFrame
@[go_sem] theorem guard_err (x : Operand) (a : Addr) (W : World) : (eqGuard .neq 85 x (.const .nilIface) (errV a) .nilIface).run Tryd.prog W = .ok () W := by
  unfold errV; go_simp
@[go_sem] theorem neq_err (a : Addr) (W : World) : (binOp .neq 85 (errV a) .nilIface).run Tryd.prog W = .ok (.bool true) W := by
  unfold errV; go_simp
end Go.Proofs.YthodkbmenndnoaaDoor

/-
  An error is not nil: for '=='.
-/
namespace Go.Proofs.YthodkbmenndnoaaDoor
open Go Go.RowKit Go.BigFrame
@[go_sem] theorem guardq_err (x : Operand) (a : Addr) (W : World) : (eqGuard .eql 85 x (.const .nilIface) (errV a) .nilIface).run Tryd.prog W = .ok () W := by
  unfold errV; go_simp
@[go_sem] theorem eql_err (a : Addr) (W : World) : (binOp .eql 85 (errV a) .nilIface).run Tryd.prog W = .ok (.bool false) W := by
  unfold errV; go_simp
end Go.Proofs.YthodkbmenndnoaaDoor

/-
  spec.l06Name; impl.checkUpTo, (impl.member).isTold, (impl.members).all, areFoes by contracts.
-/
namespace Go.Proofs.YthodkbmenndnoaaDoor
open Go Go.RowKit Go.BigFrame

/-- The variables that herds want: the error of a range, the table of bits. -/
structure HEnv (r : Addr) (W : World) : Prop where
  err : W.cell? ⟨1, 0, none⟩ = some (errV r)
  tab : Tab W
theorem HEnv.below {r : Addr} {W W' : World} (h : HEnv r W) (hb : Below W.heap.size W W') : HEnv r W' :=
  ⟨by rw [cell_below hb (block_lt_of_cell h.err)]; exact h.err, h.tab.below hb⟩

set_option maxRecDepth 100000 in
set_option maxHeartbeats 1000000 in
theorem l06Name_any (s : ByteArray) (hs : s.size ≤ maxLen) (w : World) :
    Calls Tryd.prog 79 #[.string s] w fun e w' => e = .returned (.bool (nameB s)) ∧ Below w.heap.size w w' := by
  have hM := Mem.nil w
  obtain ⟨n, hn⟩ : ∃ n, s.size = n := ⟨_, rfl⟩
  rw [hn] at hs
  unfold maxLen at hs
  have Hn := Lib.hid hn
  have esz : (s.size : Int) = n := by omega
  clear hn
  go_enter Tryd.func79, Tryd.ntmps79
  go_wp2
  go_loop [3] (fun i => ∃ k : Nat, k ≤ n ∧ i = .int .i64 k ∧ Hid (∀ j, j < k → 97 ≤ byteAt s j ∧ byteAt s j ≤ 122)) (fun i => n - (intOf i).toNat)
  case atStart => exact ⟨0, by omega, rfl, Lib.hid (fun j hj => absurd hj (by omega))⟩
  case round =>
    obtain ⟨k, hk, rfl, hall⟩ := hrel
    by_cases hlt : k < n
    · have l2 : (k : Int) < n := by omega
      have hk2 : k < s.size := by rw [Hn.out]; exact hlt
      obtain ⟨v, hv⟩ : ∃ v, byteAt s k = v := ⟨_, rfl⟩
      by_cases c1 : v < 97
      · have e1 : decide ((v : Int) < 97) = true := decide_eq_true (by omega)
        have l1 : (v : Int) < 97 := by omega
        have HZ := Lib.hid (name_no hk2 (by omega))
        have Hv := Lib.hid hv
        clear hv
        go_wp2_with (first | (refine wpList_index rfl _ _ rfl s rfl k hk2 rfl v Hv.out ?_))
        go_ret
        rw [HZ.out]
        exact ⟨rfl, hM.below⟩
      by_cases c2 : 122 < v
      · have e1 : decide ((v : Int) < 97) = false := decide_eq_false (by omega)
        have e2 : decide ((122 : Int) < v) = true := decide_eq_true (by omega)
        have HZ := Lib.hid (name_no hk2 (by omega))
        have Hv := Lib.hid hv
        clear hv
        go_wp2_with (first | (refine wpList_index rfl _ _ rfl s rfl k hk2 rfl v Hv.out ?_) | (refine wpList_gindex ?_ _ _ rfl s rfl k hk2 rfl v Hv.out ?_; kernel_rfl))
        go_ret
        rw [HZ.out]
        exact ⟨rfl, hM.below⟩
      have e1 : decide ((v : Int) < 97) = false := decide_eq_false (by omega)
      have e2 : decide ((122 : Int) < v) = false := decide_eq_false (by omega)
      have HZ := Lib.hid (fun j (hj : j < k + 1) => show 97 ≤ byteAt s j ∧ byteAt s j ≤ 122 from by
        by_cases e : j = k
        · subst e; omega
        · exact hall.out j (by omega))
      have Hv := Lib.hid hv
      clear hv
      go_wp2_with (first | (refine wpList_index rfl _ _ rfl s rfl k hk2 rfl v Hv.out ?_) | (refine wpList_gindex ?_ _ _ rfl s rfl k hk2 rfl v Hv.out ?_; kernel_rfl))
      go_round
      case rel => exact ⟨k + 1, by omega, by go_num, HZ⟩
      case measure => simp [intOf]; omega
    · obtain rfl : k = n := by omega
      have hz : nameB s = inB 1 8 (k : Int) := by
        unfold nameB inB
        rw [nameU_iff.2 (by rw [Hn.out]; exact hall.out), Bool.and_true, Hn.out]
        exact decide_eq_decide.2 (by omega)
      have HZ := Lib.hid hz
      clear hz
      go_wp2_with (first | (go_at_call 78; (with_reducible refine (l00In_any (k : Int) 1 8 _).mono ?_); rintro e W' ⟨rfl, hb'⟩; have hM' := hM.call hb'; clear hM hb'; have hM := hM'; clear hM'))
      go_ret
      rw [HZ.out]
      exact ⟨rfl, hM.below⟩

set_option maxHeartbeats 400000 in
theorem checkUpTo_noR {r : Addr} (n m : Int) (w : World) (hE : HEnv r w) (h : inB 0 m n = false) :
    Calls Tryd.prog 81 #[.int .i64 n, .int .i64 m] w fun e w' => e = .returned (errV r) ∧ Below w.heap.size w w' := by
  have v1 := hE.err
  have h' : ¬ (0 ≤ n ∧ n ≤ m) := of_decide_eq_false h
  clear hE h
  by_cases h0 : n < 0
  · clear h'
    go_enter Tryd.func81, Tryd.ntmps81
    go_wp2
    go_ret
    exact ⟨rfl, Below.refl _ _⟩
  · have h1 : m < n := by omega
    have d1 : decide (m < n) = true := decide_eq_true h1
    clear h'
    go_enter Tryd.func81, Tryd.ntmps81
    go_wp2
    go_ret
    exact ⟨rfl, Below.refl _ _⟩

set_option maxRecDepth 100000 in
set_option maxHeartbeats 1000000 in
theorem isTold_any {r : Addr} (d : Hd) (k : Nat) (he : -32768 ≤ d.es k ∧ d.es k ≤ 32767) (w : World) (hE : HEnv r w) :
    Calls Tryd.prog 57 #[.agg (arr 3 (gMem d k))] w fun e w' => e = .returned (.bool (toldB d k)) ∧ Below w.heap.size w w' := by
  have hM := Mem.nil w
  have HE := Lib.hid hE
  clear hE
  have g0 : gMem d k 0 = .string (d.ss k) := rfl
  have g1 : gMem d k 1 = .int .i16 (d.es k) := rfl
  have c1 : IntKind.i64.wrap (d.es k) = d.es k := IntWalk.i64_in _ (by omega)
  have ht : toldB d k = (nameB (d.ss k) && inB 0 100 (d.es k)) := rfl
  rw [ht]
  clear ht
  generalize gMem d k = g at g0 g1 ⊢
  generalize d.ss k = s at *
  generalize d.es k = x at *
  cases hn : nameB s
  · have Hn := Lib.hid hn
    clear hn
    have tk_b1 : True := trivial
    go_enter Tryd.func57, Tryd.ntmps57
    go_wp2_with (first | (have _t := tk_b1; refine wpList_box rfl _ _ rfl _ _ rfl hM ?_; intro b1 W' hb1 hM'; clear hM tk_b1; have hM := hM'; clear hM') | (refine wpList_get1 rfl _ _ rfl _ _ rfl hM 0 rfl (cellTab _ rfl) (by omega) _ g0 ?_) | (go_at_call 82; refine (isName_any s _).mono ?_; rintro e W' ⟨rfl, hb'⟩; rw [Hn.out]; have hM' := hM.call hb'; clear hM hb'; have hM := hM'; clear hM'))
    go_ret
    exact ⟨rfl, hM.below⟩
  have Hn := Lib.hid hn
  clear hn
  cases hi : inB 0 100 x
  · have Hi := Lib.hid hi
    clear hi
    have tk_b1 : True := trivial
    go_enter Tryd.func57, Tryd.ntmps57
    go_wp2_with (first | (have _t := tk_b1; refine wpList_box rfl _ _ rfl _ _ rfl hM ?_; intro b1 W' hb1 hM'; clear hM tk_b1; have hM := hM'; clear hM') | (refine wpList_get1 rfl _ _ rfl _ _ rfl hM 0 rfl (cellTab _ rfl) (by omega) _ g0 ?_) | (go_at_call 82; refine (isName_any s _).mono ?_; rintro e W' ⟨rfl, hb'⟩; rw [Hn.out]; have hM' := hM.call hb'; clear hM hb'; have hM := hM'; clear hM') | (refine wpList_gget1 ?_ _ _ rfl _ _ rfl hM 0 rfl (cellTab _ rfl) (by omega) _ g1 ?_; kernel_rfl) | (go_at_call 81; (with_reducible refine (checkUpTo_noR x 100 _ (HE.out.below hM.below) Hi.out).mono ?_); rintro e W' ⟨rfl, hb'⟩; have hM' := hM.call hb'; clear hM hb'; have hM := hM'; clear hM'))
    go_ret
    exact ⟨rfl, hM.below⟩
  · have Hi := Lib.hid hi
    clear hi
    have tk_b1 : True := trivial
    go_enter Tryd.func57, Tryd.ntmps57
    go_wp2_with (first | (have _t := tk_b1; refine wpList_box rfl _ _ rfl _ _ rfl hM ?_; intro b1 W' hb1 hM'; clear hM tk_b1; have hM := hM'; clear hM') | (refine wpList_get1 rfl _ _ rfl _ _ rfl hM 0 rfl (cellTab _ rfl) (by omega) _ g0 ?_) | (go_at_call 82; refine (isName_any s _).mono ?_; rintro e W' ⟨rfl, hb'⟩; rw [Hn.out]; have hM' := hM.call hb'; clear hM hb'; have hM := hM'; clear hM') | (refine wpList_gget1 ?_ _ _ rfl _ _ rfl hM 0 rfl (cellTab _ rfl) (by omega) _ g1 ?_; kernel_rfl) | (go_at_call 81; (with_reducible refine (checkUpTo_yes x 100 _ Hi.out).mono ?_); rintro e W' ⟨rfl, hb'⟩; have hM' := hM.call hb'; clear hM hb'; have hM := hM'; clear hM'))
    go_ret
    exact ⟨rfl, hM.below⟩

set_option maxHeartbeats 400000 in
theorem all_any (a : Option Addr) (n c : Nat) (hn : n ≤ 14) (s : Nat) (hs : 2 ^ n - 1 = s) (w : World) :
    Calls Tryd.prog 101 #[.slice a n c] w fun e w' => e = .returned (.int .u16 s) ∧ Below w.heap.size w w' := by
  have h0 : (0 : Int) ≤ n := by omega
  have h1 : (n : Int) ≤ 16 := by omega
  have h2 := u16_two n (by omega)
  have h3 : 0 < 2 ^ n := Nat.two_pow_pos n
  obtain ⟨p, hp⟩ : ∃ p, 2 ^ n = p := ⟨_, rfl⟩
  rw [hp] at h2 h3 hs
  have e : IntKind.u16.wrap (2 ^ n) = (p : Int) := by
    rw [← hp, ← IntWalk.u16_in ((2 ^ n : Nat) : Int) ⟨Int.natCast_nonneg _, by omega⟩]; simp
  have e2 : IntKind.u16.wrap ((p : Int) - 1) = (s : Int) := by rw [IntWalk.u16_in _ (by omega)]; omega
  clear hs hp
  go_enter Tryd.func101, Tryd.ntmps101
  go_wp2
  go_ret
  exact ⟨rfl, Below.refl _ _⟩

set_option maxRecDepth 100000 in
set_option maxHeartbeats 1000000 in
theorem areFoes_any (d : Hd) (a : Option Addr) (n c i k : Nat) (hi : i < n) (hk : k < 16) (hf : 0 ≤ d.fs i ∧ d.fs i ≤ 65535) (w : World) (hA : MemsAt w a n d) :
    Calls Tryd.prog 70 #[.slice a n c, .int .i64 i, .int .i64 k] w fun e w' => e = .returned (.bool (foe d i k)) ∧ Below w.heap.size w w' := by
  have hM := Mem.nil w
  obtain ⟨b, N, F, rfl, hN, -, hF, hAt⟩ := hA.row hi
  obtain ⟨s, hs⟩ : ∃ s : Nat, d.fs i = s := ⟨(d.fs i).toNat, by omega⟩
  have f2 : F (i * 3 + 2) = .int .u16 s := (hF 2 (by omega)).trans (by rw [← hs]; rfl)
  have hs2 : s < 65536 := by omega
  have he : foe d i k = s.testBit k := by unfold foe; rw [hs]; rfl
  have l2 : (i : Int) < n := by omega
  rw [he]
  have HT := Lib.hid hAt
  clear hA hF hAt hs hf he
  go_enter Tryd.func70, Tryd.ntmps70
  go_wp2_with (first | (refine wpList_getAt1 rfl _ _ rfl _ _ rfl HT.out (cellTab _ rfl) (by omega) _ f2 ?_) | (go_at_call 105; refine (has_any s hs2 k hk _).mono ?_; rintro e W' ⟨rfl, hb'⟩; have hM' := hM.call hb'; clear hM hb'; have hM := hM'; clear hM'))
  go_ret
  exact ⟨rfl, hM.below⟩
end Go.Proofs.YthodkbmenndnoaaDoor

/-
  What the rows over herds take out of their condition: the table of bits, the errors; a herd out of its reading.
-/
namespace Go.Proofs.YthodkbmenndnoaaDoor
open Go Go.RowKit Go.ChangeShapes Go.WideShapes Go.ChangeAt

theorem tab_data {H : Type} : (Rows.laid_math_bits_deBruijn32tab : DataW H) = .agg (Lib.deBruijn32tab.map fun n => .lit (.int .u8 (n : Nat))) := rfl
theorem tab_len : Lib.deBruijn32tab.length = 32 := by decide
set_option maxRecDepth 100000 in
/-- The table's cells. -/
theorem tab_of {W : World} {g : Nat} {t : TypeId} {cs : Array Value} {fuel : Nat} {p : List MemPlace}
    (hg : Tryd.prog.globalNamed "math/bits.deBruijn32tab" = some g) (ht : (Tryd.prog.globals[g]?).map (·.type) = some t) (hv : W.var? Tryd.prog "math/bits.deBruijn32tab" = some cs)
    (hd : DataW.trod (fun _ => ()) Tryd.prog W 0 (fun _ => true) false fuel t cs.toList = some (Rows.laid_math_bits_deBruijn32tab, p)) : Tab W := by
  obtain rfl := Option.some.inj ((show Tryd.prog.globalNamed "math/bits.deBruijn32tab" = some 8 by kernel_rfl).symm.trans hg)
  obtain rfl := Option.some.inj ((show (Tryd.prog.globals[8]?).map (·.type) = some 168 by kernel_rfl).symm.trans ht)
  obtain ⟨xs, m1, -, hx1, hlen, hn, hel⟩ := DataW.trod_array Tryd.underlying168 hd
  have c9 : Tryd.prog.cellsOf 5 = 1 := by kernel_rfl
  rw [c9] at hel
  simp only [Prod.mk.injEq] at hx1
  have hd := hx1.1
  rw [tab_data, DataW.agg.injEq] at hd
  have hlx : xs.length = 32 := by
    have := congrArg List.length hd
    rw [List.length_map, List.length_map, tab_len] at this
    exact this.symm
  intro k hk
  have hc := World.var?_cell hg hv k
  rw [hc]
  obtain ⟨x, hx⟩ : ∃ x, xs[k]? = some x := ⟨xs[k]'(by omega), List.getElem?_eq_getElem (by omega)⟩
  have h1 := hel k hk
  rw [hx] at h1
  obtain ⟨s, e1, rfl, -⟩ := DataW.trod_int Tryd.underlying5 h1
  have hcs : cs[k]? = some (.int .u8 s) := by
    have := congrArg (fun l => l[0]?) e1
    simpa [List.getElem?_take, List.getElem?_drop] using this
  rw [hcs]
  have hk2 : (xs.map (·.1))[k]? = some (.lit (.int .u8 s)) := by simp [hx]
  rw [← hd, List.getElem?_map] at hk2
  have hk3 : Lib.deBruijn32tab[k]? = some (Lib.deBruijn32tab.getD k 0) := by
    rw [List.getD_eq_getElem?_getD, List.getElem?_eq_getElem (by rw [tab_len]; exact hk)]; rfl
  rw [hk3] at hk2
  simp only [Option.map_some, Option.some.injEq] at hk2
  have hk4 : ((Lib.deBruijn32tab.getD k 0 : Nat) : Int) = s := by simpa using hk2
  rw [hk4]

/-- What the rows of chapter 6 give: the errors, the table. -/
def HEnvs (a : Nat → Addr) (W : World) : Prop := Errs a W ∧ Tab W
theorem HEnvs.one {a : Nat → Addr} {W : World} (h : HEnvs a W) : HEnv (a 1) W := ⟨h.1.vars 1 (by omega), h.2⟩
theorem HEnvs.below {a : Nat → Addr} {W W' : World} (h : HEnvs a W) (hb : Below W.heap.size W W') : HEnvs a W' := ⟨h.1.below hb, h.2.below hb⟩
theorem henvs_of_laid {W : World} (h : laidMetH Tryd.prog errsLaid W) : ∃ a, HEnvs a W := by
  obtain ⟨a, hE⟩ := errs_of_laid h
  refine ⟨a, hE, ?_⟩
  rw [MakeChecks.laidMetH_plain _ _ _ (by kernel_rfl)] at h
  obtain ⟨ps, ⟨gT, tT, csT, fT, pT, qT, hgT, htT, hvT, hdT, -⟩, -⟩ := h
  exact tab_of hgT htT hvT hdT
theorem henv_of_laid {W : World} (h : laidMetH Tryd.prog Rows.fnExactValidHerdRow.laid W) : ∃ r, HEnv r W := by
  rw [MakeChecks.laidMetH_plain _ _ _ (by kernel_rfl)] at h
  obtain ⟨ps, ⟨gT, tT, csT, fT, pT, qT, hgT, htT, hvT, hdT, ⟨g1, t1, cs1, f1, p1, q1, hg1, ht1, hv1, hd1, _, e1⟩, eT⟩, hnd, hrows⟩ := h
  subst e1 eT
  obtain ⟨a1, v1, c1, rfl⟩ := err_of_laid 1 (by omega) hg1 ht1 hv1 hd1 (fun b off hm => hrows b off (by simp only [List.mem_append] at hm ⊢; rcases hm with h | h <;> simp [h]))
  exact ⟨a1, v1, tab_of hgT htT hvT hdT⟩
theorem many1_of {α : Type} {l : List α} (h : l.length = 1) : ∃ x0, l = [x0] := by
  match l, h with
  | [x0], _ => exact ⟨x0, rfl⟩
end Go.Proofs.YthodkbmenndnoaaDoor

/-
  Laws over herds: a herd's blocks out of the memory of a law.
-/
namespace Go.Proofs.YthodkbmenndnoaaDoor
open Go Go.RowKit Go.BigFrame

theorem hdB_ge {d : Hd} {b1 b2 b3 s : Nat} (h1 : s ≤ b1) (h2 : s ≤ b2) (h3 : s ≤ b3) : ∀ (i : Nat) (p : Nat × Nat × (Nat → Value)), (hdB d b1 b2 b3)[i]? = some p → s ≤ p.1 := fun i p h => by
  rcases i with _ | _ | _ | i <;> simp [hdB] at h <;> (rw [← h]; assumption)
theorem hdV_one (d : Hd) (b1 b2 b3 k : Nat) : (hdV d b1 b2 b3 k).oneCell' = true := by
  unfold hdV h3
  (repeat' split) <;> rfl
theorem three_of {b0 : Base} {L : Blocks} {X : World} {d : Hd} {b1 b2 b3 : Nat} (h : Mem b0 L X) (i : Nat) (hi : (L.drop i).take 3 = hdB d b1 b2 b3) : Mem X (hdB d b1 b2 b3) X := by
  have key : ∀ (q : Nat) (p : Nat × Nat × (Nat → Value)), (hdB d b1 b2 b3)[q]? = some p → L[i + q]? = some p := fun q p hq => by
    rw [← hi, List.getElem?_take] at hq
    split at hq
    · rwa [List.getElem?_drop] at hq
    · simp at hq
  have hM := h.base (w' := Base.of X) (Below.refl _ _)
  exact ⟨hM.good, fun q b n f hq => hM.ats _ b n f (key q _ hq), fun q r p s hq hr hne => hM.apart _ _ p s (key q _ hq) (key r _ hr) (by omega)⟩
end Go.Proofs.YthodkbmenndnoaaDoor

/-
  (impl.members).demand, impl.flockWith's deferred closure by contracts; two results in memory.
-/
namespace Go.Proofs.YthodkbmenndnoaaDoor
open Go Go.RowKit Go.BigFrame Go.Extern.Stop Go.Stop Go.Extern

/-- What stands for a goat that is none. -/
def strayV (g : Int) : Value := .iface 150 (.int .i64 g)

theorem results_cells {P : Program} {fn : Func} {p q : Tmp} {t u : TypeId} (h : fn.results = #[.cell p t, .cell q u]) (tmps : Array Value) {W : World} {b n : Nat} {f : Nat → Value} {b2 : Nat} {v : Value}
    (hp : tmps.getD p undef = .pointer (some ⟨b, 0, none⟩)) (hg : At W b n f) (hT : RowT P t n) (hq : tmps.getD q undef = .pointer (some ⟨b2, 0, none⟩)) (hv : W.cell? ⟨b2, 0, none⟩ = some v) (hU : CellT P u) :
    (results fn tmps).run P W = .ok (.tuple #[.agg (arr n f), v]) W := by
  have h1 : (asAddr (.pointer (some ⟨b, 0, none⟩))).run P W = .ok ⟨b, 0, none⟩ W := rfl
  have h2 : (asAddr (.pointer (some ⟨b2, 0, none⟩))).run P W = .ok ⟨b2, 0, none⟩ W := rfl
  have hp' : tmps[p]?.getD undef = .pointer (some ⟨b, 0, none⟩) := by simpa using hp
  have hq' : tmps[q]?.getD undef = .pointer (some ⟨b2, 0, none⟩) := by simpa using hq
  simp only [results, h]
  simp [Sem.run_bind, Result.andThen, hp', hq', h1, h2, loadVar_at hg hT, run_load_cell hU hv]

set_option maxRecDepth 100000 in
theorem demand_ok (a : Option Addr) (n c : Nat) (g : Int) (hg : 0 ≤ g ∧ g < n) (w : World) :
    Calls Tryd.prog 107 #[.slice a n c, .int .i64 g] w fun e w' => e = .returned (.tuple #[]) ∧ Below w.heap.size w w' := by
  have d0 : decide (g < 0) = false := decide_eq_false (by omega)
  have d1 : decide ((n : Int) ≤ g) = false := decide_eq_false (by omega)
  go_enter Tryd.func107, Tryd.ntmps107
  go_wp2
  go_end0
  exact ⟨rfl, Below.refl _ _⟩
set_option maxRecDepth 100000 in
theorem demand_no (a : Option Addr) (n c : Nat) (g : Int) (hg : ¬ (0 ≤ g ∧ g < n)) (w : World) :
    Calls Tryd.prog 107 #[.slice a n c, .int .i64 g] w fun e w' => e = .panicked [{ v := strayV g, recovered := false }] ∧ Below w.heap.size w w' := by
  by_cases h : g < 0
  · have d0 : decide (g < 0) = true := decide_eq_true h
    clear hg
    go_enter Tryd.func107, Tryd.ntmps107
    go_wp2
    exact ⟨rfl, rfl, Below.refl _ _⟩
  · have d0 : decide (g < 0) = false := decide_eq_false h
    have d1 : decide ((n : Int) ≤ g) = true := decide_eq_true (by omega)
    clear hg
    go_enter Tryd.func107, Tryd.ntmps107
    go_wp2
    exact ⟨rfl, rfl, Below.refl _ _⟩
theorem ta_stray (g : Int) (w : World) : (Instr.typeAssert (strayV g) 20 123 true).run Tryd.prog w = .ok (.tuple #[strayV g, .bool true]) w := by kernel_rfl
theorem ta_none (w : World) : (Instr.typeAssert .nilIface 20 123 true).run Tryd.prog w = .ok (.tuple #[.nilIface, .bool false]) w := by kernel_rfl

theorem method_refusal (g : Int) (w : World) : (Go.method 301 150 (.int .i64 g) "loop.example/g01345/impl.refusal").run Tryd.prog w = .ok (151, .int .i64 g) w := by kernel_rfl

set_option maxRecDepth 100000 in
theorem catch_idle (p : Nat) (w : World) :
    CallsD Tryd.prog 106 #[.pointer (some ⟨p, 0, none⟩)] .returning w fun e u' w' => e = .returned (.tuple #[]) ∧ u' = .returning ∧ w' = w := by
  have h1 := ta_none
  refine callsD_of_wpS Tryd.func106 rfl fun c₀ cs hu => ?_
  apply wpS_seq
  apply wpS_region
  simp [wpOpsS, go_sem, recoverD, hu, Tryd.ntmps106, Exit.thenS, h1]
  refine wpS_of_wp ?_
  go_wp2
  cases c₀
  simp_all [bodyPostS, results, Tryd.results106]

theorem refusal_any (g : Int) (w : World) : Calls Tryd.prog 151 #[.int .i64 g] w fun e w' => e = .returned (strayV g) ∧ w' = w := by
  go_enter Tryd.func151, Tryd.ntmps151
  go_wp2
  go_ret
  exact ⟨rfl, rfl⟩
set_option maxRecDepth 100000 in
set_option maxHeartbeats 1000000 in
theorem catch_stray (p : Nat) (v : Value) (g : Int) {b0 : Base} {L : Blocks} (w : World) (hM : Mem b0 ((p, 1, fun _ => v) :: L) w) (hp : b0.B ≤ p) :
    CallsD Tryd.prog 106 #[.pointer (some ⟨p, 0, none⟩)] (.panicking [{ v := strayV g, recovered := false }]) w fun e u' w' =>
      e = .returned (.tuple #[]) ∧ u' = .panicking [{ v := strayV g, recovered := true }] ∧ Mem b0 ((p, 1, fun _ => strayV g) :: L) w' := by
  have h1 := ta_stray g
  have h2 := method_refusal g
  refine callsD_of_wpS Tryd.func106 rfl fun c₀ cs hu => ?_
  apply wpS_seq
  apply wpS_region
  simp [wpOpsS, go_sem, recoverD, hu, Tryd.ntmps106, Exit.thenS, h1]
  obtain ⟨R, hR⟩ : ∃ R : Ending → FrameMode → World → Prop, (fun e u' w' => e = Ending.returned (Value.tuple #[]) ∧ u' = FrameMode.panicking [{ v := strayV g, recovered := true }] ∧ Mem b0 ((p, 1, fun _ => strayV g) :: L) w') = R := ⟨_, rfl⟩
  rw [hR]
  have HR := Lib.hid hR
  clear hR hu h1
  refine wpS_of_wp ?_
  simp only [Array.replicate, List.replicate, List.append_toArray, List.setIfInBounds_toArray, List.set_cons_succ, List.set_cons_zero, List.cons_append, List.nil_append]
  unfold strayV
  go_wp2_with (first | (go_at_call 151; refine (refusal_any g _).mono ?_; rintro e W' ⟨rfl, rfl⟩) | (refine wpList_set1 rfl _ _ _ rfl _ _ rfl (strayV g) rfl rfl hM 0 rfl hp (cellTab _ rfl) (by omega) ?_; intro W2 hM'; clear hM; have hM := hM'; clear hM'; simp only [List.set] at hM))
  have hM2 := hM.re 0 rfl (fun _ => strayV g) (fun k hk => by simp [upd]; omega)
  refine ⟨rfl, .panicking [{ v := strayV g, recovered := true }], rfl, .tuple #[], ?_, ?_⟩
  · simp [results, Tryd.results106]
  · rw [← HR.out]
    exact ⟨rfl, rfl, hM2⟩
end Go.Proofs.YthodkbmenndnoaaDoor

/-
  PLAIN LAWS over any program: in a drawn region with reads at any places, a store of one cell.
-/
namespace Go.Proofs.YthodkbmenndnoaaDoor
open Go Go.RowKit

section
variable {P : Program} {o : Oper} {a : Act} {w : Base} {L x : Blocks} {K : Act → (World → Prop) → Prop}
theorem step_set1 (ty : TypeId) (y z : Operand) (ho : o.op = .store ty y z) (b off : Nat) (hx : a.eval y = .pointer (some ⟨b, off, none⟩))
    (v : Value) (hy : a.eval z = v) (h1 : v.oneCell' = true) (i : Nat) {n : Nat} {f : Nat → Value} (hi : x[i]? = some (b, n, f)) (hb : w.B ≤ b) (hT : CellT P ty) (hle : off < n)
    (h : K (a.put o.dst undef) (Mem w ((x.set i (b, n, upd f off v)) ++ L))) : stepT P (Mem w L) o a (Mem w (x ++ L)) K := by
  obtain ⟨_, hm⟩ := hT
  have hil : i < x.length := (List.getElem?_eq_some_iff.1 hi).1
  have hi' : (x ++ L)[i]? = some (b, n, f) := by rw [List.getElem?_append_left hil]; exact hi
  intro W hM
  obtain ⟨t, ht⟩ := hM.ats i b n f hi'
  have hc := (hM.ats i b n f hi').cell hle
  have hf := (hM.ats i b n f hi').frozen off
  have hsz : (sizeOf ty).run P W = .ok 1 W := by
    cases hq : P.info? ty with
    | none => simp [hq] at hm
    | some i => simp [hq] at hm; simp [sizeOf, typeInfo, hq, hm]
  have hcells : v.cells = #[v] := by cases v <;> first | rfl | (simp [Value.oneCell'] at h1)
  have hadd : (⟨b, off, none⟩ : Addr).add 0 = ⟨b, off, none⟩ := by simp [Addr.add]
  have hs : (storeCells ⟨b, off, none⟩ [v] 0).run P W = .ok () (W.setRow b (arr n (upd f off v))) := by
    simp only [storeCells, Sem.run_bind, hadd, run_store P W _ v _ h1, hc]
    simp [hf, setCell_eq_setRow W b off _ t (0, 0) v ht, arr_set]
  have hM' := hM.setRow i hi' hb (upd f off v)
  rw [List.set_append_left _ _ hil] at hM'
  refine .inl ⟨undef, _, _, .inr ⟨?_, rfl⟩, kept_mem w L (x.set i (b, n, upd f off v)), hM', h⟩
  unfold execOp
  simp only [ho, hx, hy, Instr.storeAt, Instr.sureAddr, storeVar, Sem.run_bind, Sem.run_pure, Result.andThen_ok, hcells, hsz, List.size_toArray, List.length_cons, List.length_nil, Nat.zero_add, ne_eq, not_true_eq_false, if_false, hs]
/-- A load of a cell that every world of the class holds. -/
theorem b_old {K : Act → Prop} {C : World → Prop} (ty : TypeId) (y : Operand) (ho : o.op = .load ty y) (b off : Nat) (hx : a.eval y = .pointer (some ⟨b, off, none⟩)) (hT : CellT P ty) (v : Value) (hc : ∀ W, C W → W.cell? ⟨b, off, none⟩ = some v)
    (h : K (a.put o.dst v)) : qB P o a C K := by
  refine ⟨v, fun W hM => ?_, h⟩
  have hl := run_load_cell (P := P) hT (hc W hM)
  unfold Oper.quietAt execOp
  simp only [ho, hx, Instr.loadAt, Instr.sureAddr, Sem.run_bind, Sem.run_pure, Result.andThen_ok, hl]
  exact ⟨rfl, rfl⟩
end
end Go.Proofs.YthodkbmenndnoaaDoor

/-
  (impl.members).areMutual by contract.
-/
namespace Go.Proofs.YthodkbmenndnoaaDoor
open Go Go.RowKit Go.BigFrame

/-- A list of numbers in memory. -/
def NumsAt (W : World) (a : Option Addr) (l : List Nat) : Prop := l = [] ∨ ∃ b N F, a = some ⟨b, 0, none⟩ ∧ l.length ≤ N ∧ (∀ j (hj : j < l.length), F j = .int .i64 (l[j] : Nat)) ∧ At W b N F
theorem NumsAt.below {W W' : World} {a : Option Addr} {l : List Nat} (h : NumsAt W a l) (hb : Below W.heap.size W W') : NumsAt W' a l := by
  rcases h with h | ⟨b, N, F, h1, h2, h3, h4⟩
  · exact .inl h
  · exact .inr ⟨b, N, F, h1, h2, h3, h4.below hb h4.lt⟩
theorem NumsAt.at {W : World} {a : Option Addr} {l : List Nat} (h : NumsAt W a l) {k : Nat} (hk : k < l.length) : ∃ b N F, a = some ⟨b, 0, none⟩ ∧ l.length ≤ N ∧ F k = .int .i64 (l[k] : Nat) ∧ At W b N F := by
  rcases h with h | ⟨b, N, F, h1, h2, h3, h4⟩
  · rw [h] at hk; simp at hk
  · exact ⟨b, N, F, h1, h2, h3 k hk, h4⟩
theorem GivesV.nums {l : List Nat} {w : World} {e : Ending} {w' : World} (h : GivesV l w e w') : ∃ a c, e = .returned (.slice a l.length c) ∧ l.length ≤ c ∧ NumsAt w' a l ∧ Below w.heap.size w w' := by
  obtain ⟨v, rfl, h | ⟨b, c, F, h1, h2, h3, h4, h5⟩⟩ := h
  · obtain ⟨h1, h2, h3⟩ := h
    have hl : l = [] := List.eq_nil_of_length_eq_zero h2
    subst hl
    exact ⟨none, 0, by rw [h1]; rfl, Nat.le_refl _, .inl rfl, h3.below⟩
  · refine ⟨_, c, by rw [h1], h3, .inr ⟨b, c * 1, F, rfl, by omega, fun j hj => ?_, h5.at0⟩, h5.below⟩
    rw [h4 j (by omega), natI_at hj]

def mutA (d : Hd) (n : Nat) : Bool := (List.range n).all (mutB d)
theorem mutA_no {d : Hd} {n i : Nat} (hi : i < n) (h : mutB d i = false) : mutA d n = false := by
  unfold mutA
  rw [List.all_eq_false]
  exact ⟨i, by simpa using hi, by simp [h]⟩
theorem mutA_yes {d : Hd} {n : Nat} (h : ∀ i, i < n → mutB d i = true) : mutA d n = true := by
  unfold mutA
  rw [List.all_eq_true]
  exact fun i hi => h i (by simpa using hi)
theorem minus_all {s n : Nat} (hs : s < 65536) (hn : n ≤ 14) : minus s (2 ^ n - 1) = 0 ↔ s < 2 ^ n := by
  constructor
  · intro h
    refine Nat.lt_of_not_le fun hle => ?_
    obtain ⟨i, hi, ht⟩ := Nat.exists_ge_and_testBit_of_ge_two_pow hle
    have := minus_bit (b := 2 ^ n - 1) hs i
    rw [h, ht, Nat.testBit_two_pow_sub_one] at this
    simp at this
    omega
  · intro h
    apply Nat.eq_of_testBit_eq
    intro i
    rw [minus_bit hs, Nat.testBit_two_pow_sub_one]
    by_cases hi : i < n
    · simp [hi]
    · have : s.testBit i = false := Nat.testBit_lt_two_pow (Nat.lt_of_lt_of_le h (Nat.pow_le_pow_right (by decide) (by omega)))
      simp [this]
theorem mut_1 {d : Hd} {i : Nat} (h : ¬ d.fs i < 2 ^ d.n1) : mutB d i = false := by simp [mutB, h]
theorem mut_2 {d : Hd} {i : Nat} (h : foe d i i = true) : mutB d i = false := by simp [mutB, h]
theorem mut_3 {d : Hd} {i k : Nat} (hk : k ∈ bitsL (d.fs i).toNat) (h : foe d k i = false) : mutB d i = false := by
  have : ((bitsL (d.fs i).toNat).all fun k => foe d k i) = false := by rw [List.all_eq_false]; exact ⟨k, hk, by simp [h]⟩
  simp [mutB, this]

set_option maxRecDepth 100000 in
set_option maxHeartbeats 4000000 in
theorem areMutual_any (d : Hd) (a : Option Addr) (c : Nat) (hn : d.n1 ≤ 14) (hf : ∀ i, i < d.n1 → 0 ≤ d.fs i ∧ d.fs i ≤ 65535) (w : World) (hA : MemsAt w a d.n1 d) (hT : Tab w) :
    Calls Tryd.prog 58 #[.slice a d.n1 c] w fun e w' => e = .returned (.bool (mutA d d.n1)) ∧ Below w.heap.size w w' := by
  have hM := Mem.nil w
  have HA := Lib.hid hA
  have HT := Lib.hid hT
  have HF := Lib.hid hf
  obtain ⟨n, hnn⟩ : ∃ n, d.n1 = n := ⟨_, rfl⟩
  have HN := Lib.hid hnn
  rw [hnn] at hn hf ⊢
  rw [hnn] at HA
  clear hA hT hf hnn
  obtain ⟨al, hal⟩ : ∃ al, 2 ^ n - 1 = al := ⟨_, rfl⟩
  have HAL := Lib.hid hal
  have hal2 : al < 65536 := by rw [← hal]; have := u16_two n (by omega); omega
  clear hal
  go_enter Tryd.func58, Tryd.ntmps58
  go_wp2
  go_loopw [10] (fun i wr => ∃ k : Nat, k ≤ n ∧ i = .int .i64 k ∧ Hid (∀ j, j < k → mutB d j = true) ∧ Mem w [] wr) (fun i _ => n - (intOf i).toNat)
  case atStart => exact ⟨0, by omega, rfl, Lib.hid (fun j hj => absurd hj (by omega)), hM⟩
  case round =>
    clear hM
    obtain ⟨k, hk, rfl, hall, hM⟩ := hrel
    by_cases hlt : k < n
    · have l2 : (k : Int) < n := by omega
      obtain ⟨bm, N, F, hae, hN, -, hF, hAt⟩ := (HA.out.below hM.below).row hlt
      obtain ⟨s, hs⟩ : ∃ s : Nat, d.fs k = s := ⟨(d.fs k).toNat, by have := HF.out k (by rw [HN.out]; exact hlt); omega⟩
      have hs2 : s < 65536 := by have := HF.out k (by rw [HN.out]; exact hlt); omega
      have g2 : gMem d k 2 = .int .u16 s := by rw [← hs]; rfl
      have htn : (d.fs k).toNat = s := by omega
      obtain ⟨q, hq⟩ : ∃ q, minus s al = q := ⟨_, rfl⟩
      have em : bits .andNot .u16 (s : Int) (al : Int) = (q : Int) := by rw [minus_u16 hs2 hal2, hq]
      have hqz : q = 0 ↔ s < 2 ^ n := by rw [← hq, ← HAL.out]; exact minus_all hs2 hn
      have HS := Lib.hid hs
      have HTN := Lib.hid htn
      have HFr := Lib.hid hF
      have HAt := Lib.hid hAt
      have Hae := Lib.hid hae
      clear hs hq hF hAt htn
      by_cases h0 : q = 0
      case neg =>
        have z1 : ((q : Int) != 0) = true := by simpa using h0
        have z2 : ((q : Int) == 0) = false := by simpa using h0
        have HZ := Lib.hid (mutA_no hlt (mut_1 (d := d) (i := k) (by rw [HN.out, HS.out]; have := mt hqz.2 h0; intro h; apply this; exact_mod_cast h)))
        clear hqz h0
        have tk_b3 : True := trivial; have tk_s1 : True := trivial
        subst hae
        go_wp2_with (first | (refine wpList_getAt rfl _ _ rfl _ _ rfl HAt.out (rowTab _ _ rfl) (by omega) (gMem d k) HFr.out ?_) | (have _t := tk_b3; refine wpList_zero rfl _ rfl (zeroTab _ _ _ rfl) hM ?_; intro b3 W' hb3 hM'; clear hM tk_b3; have hM := hM'; clear hM') | (have _t := tk_s1; refine wpList_lay rfl _ _ _ rfl _ _ rfl _ _ rfl hM 0 rfl (by assumption) (rowTab _ _ rfl) (by omega) (fun j _ => gMem_one d k j) ?_; intro W' hM'; have hM2 := hM'.re 0 rfl (gMem d k) (fun k hk => by simp [lay, hk]); simp only [List.set_cons_zero] at hM2; clear hM hM' tk_s1; have hM := hM2; clear hM2))
        ((try simp only [Act.put, List.setIfInBounds_toArray, List.set_cons_succ, List.set_cons_zero]); refine wp_region_mem (by kernel_rfl) (by kernel_rfl) hM ?_; clear hM; (repeat (first | go_big_quiet_skip | (go_big_quiet_want; first | (refine quiet_get1 _ _ rfl _ _ rfl 0 rfl (cellTab _ rfl) (by omega) _ (g2) ?_; (simp only [Act.put, List.setIfInBounds_toArray, List.set_cons_succ, List.set_cons_zero]); go_big_quiet_on) | (refine quiet_call ?_; apply Exists.intro; apply Exists.intro; apply Exists.intro; refine ⟨fun W => ?_, fun W hM => ?_, ?_⟩; (go_simp; exact ⟨rfl, rfl⟩); (with_reducible exact all_any _ n c hn al HAL.out W); (simp only [Act.put, List.setIfInBounds_toArray, List.set_cons_succ, List.set_cons_zero]); go_big_quiet_on) | (refine quiet_val ?_; apply Exists.intro; refine ⟨fun W => ?_, ?_⟩; (go_simp; rfl); (simp only [Act.put, List.setIfInBounds_toArray, List.set_cons_succ, List.set_cons_zero]); go_big_quiet_on)))); (with_reducible refine wpQuiet_nil ?_); intro W' hM)
        go_wp2
        go_ret
        rw [HZ.out]
        exact ⟨rfl, hM.below⟩
      subst h0
      have hsn : s < 2 ^ n := hqz.1 rfl
      have hfoe : foe d k k = s.testBit k := by unfold foe; rw [HTN.out]
      have HSN := Lib.hid hsn
      clear hqz hsn
      cases hb : s.testBit k
      case true =>
        have HB := Lib.hid hb
        have HZ := Lib.hid (mutA_no hlt (mut_2 (hfoe.trans hb)))
        clear hb hfoe
        have tk_b3 : True := trivial; have tk_s1 : True := trivial
        subst hae
        go_wp2_with (first | (refine wpList_getAt rfl _ _ rfl _ _ rfl HAt.out (rowTab _ _ rfl) (by omega) (gMem d k) HFr.out ?_) | (have _t := tk_b3; refine wpList_zero rfl _ rfl (zeroTab _ _ _ rfl) hM ?_; intro b3 W' hb3 hM'; clear hM tk_b3; have hM := hM'; clear hM') | (have _t := tk_s1; refine wpList_lay rfl _ _ _ rfl _ _ rfl _ _ rfl hM 0 rfl (by assumption) (rowTab _ _ rfl) (by omega) (fun j _ => gMem_one d k j) ?_; intro W' hM'; have hM2 := hM'.re 0 rfl (gMem d k) (fun k hk => by simp [lay, hk]); simp only [List.set_cons_zero] at hM2; clear hM hM' tk_s1; have hM := hM2; clear hM2))
        ((try simp only [Act.put, List.setIfInBounds_toArray, List.set_cons_succ, List.set_cons_zero]); refine wp_region_mem (by kernel_rfl) (by kernel_rfl) hM ?_; clear hM; (repeat (first | go_big_quiet_skip | (go_big_quiet_want; first | (refine quiet_get1 _ _ rfl _ _ rfl 0 rfl (cellTab _ rfl) (by omega) _ (g2) ?_; (simp only [Act.put, List.setIfInBounds_toArray, List.set_cons_succ, List.set_cons_zero]); go_big_quiet_on) | (refine quiet_call ?_; apply Exists.intro; apply Exists.intro; apply Exists.intro; refine ⟨fun W => ?_, fun W hM => ?_, ?_⟩; (go_simp; exact ⟨rfl, rfl⟩); (with_reducible exact all_any _ n c hn al HAL.out W); (simp only [Act.put, List.setIfInBounds_toArray, List.set_cons_succ, List.set_cons_zero]); go_big_quiet_on) | (refine quiet_call ?_; apply Exists.intro; apply Exists.intro; apply Exists.intro; refine ⟨fun W => ?_, fun W hM => ?_, ?_⟩; (go_simp; exact ⟨rfl, rfl⟩); (with_reducible exact has_any s hs2 k (by omega) W); (simp only [HB.out]); (simp only [Act.put, List.setIfInBounds_toArray, List.set_cons_succ, List.set_cons_zero]); go_big_quiet_on) | (refine quiet_val ?_; apply Exists.intro; refine ⟨fun W => ?_, ?_⟩; (go_simp; rfl); (simp only [Act.put, List.setIfInBounds_toArray, List.set_cons_succ, List.set_cons_zero]); go_big_quiet_on)))); (with_reducible refine wpQuiet_nil ?_); intro W' hM)
        go_wp2
        go_ret
        rw [HZ.out]
        exact ⟨rfl, hM.below⟩
      have HB := Lib.hid hb
      have HFO := Lib.hid hfoe
      clear hb hfoe
      have tk_b3 : True := trivial; have tk_s1 : True := trivial
      subst hae
      go_wp2_with (first | (refine wpList_getAt rfl _ _ rfl _ _ rfl HAt.out (rowTab _ _ rfl) (by omega) (gMem d k) HFr.out ?_) | (have _t := tk_b3; refine wpList_zero rfl _ rfl (zeroTab _ _ _ rfl) hM ?_; intro b3 W' hb3 hM'; clear hM tk_b3; have hM := hM'; clear hM') | (have _t := tk_s1; refine wpList_lay rfl _ _ _ rfl _ _ rfl _ _ rfl hM 0 rfl (by assumption) (rowTab _ _ rfl) (by omega) (fun j _ => gMem_one d k j) ?_; intro W' hM'; have hM2 := hM'.re 0 rfl (gMem d k) (fun k hk => by simp [lay, hk]); simp only [List.set_cons_zero] at hM2; clear hM hM' tk_s1; have hM := hM2; clear hM2))
      ((try simp only [Act.put, List.setIfInBounds_toArray, List.set_cons_succ, List.set_cons_zero]); refine wp_region_mem (by kernel_rfl) (by kernel_rfl) hM ?_; clear hM; (repeat (first | go_big_quiet_skip | (go_big_quiet_want; first | (refine quiet_get1 _ _ rfl _ _ rfl 0 rfl (cellTab _ rfl) (by omega) _ (g2) ?_; (simp only [Act.put, List.setIfInBounds_toArray, List.set_cons_succ, List.set_cons_zero]); go_big_quiet_on) | (refine quiet_call ?_; apply Exists.intro; apply Exists.intro; apply Exists.intro; refine ⟨fun W => ?_, fun W hM => ?_, ?_⟩; (go_simp; exact ⟨rfl, rfl⟩); (with_reducible exact all_any _ n c hn al HAL.out W); (simp only [Act.put, List.setIfInBounds_toArray, List.set_cons_succ, List.set_cons_zero]); go_big_quiet_on) | (refine quiet_call ?_; apply Exists.intro; apply Exists.intro; apply Exists.intro; refine ⟨fun W => ?_, fun W hM => ?_, ?_⟩; (go_simp; exact ⟨rfl, rfl⟩); (with_reducible exact has_any s hs2 k (by omega) W); (simp only [HB.out]); (simp only [Act.put, List.setIfInBounds_toArray, List.set_cons_succ, List.set_cons_zero]); go_big_quiet_on) | (refine quiet_val ?_; apply Exists.intro; refine ⟨fun W => ?_, ?_⟩; (go_simp; rfl); (simp only [Act.put, List.setIfInBounds_toArray, List.set_cons_succ, List.set_cons_zero]); go_big_quiet_on)))); (with_reducible refine wpQuiet_nil ?_); intro W' hM)
      go_wp2_with (first | (refine wpList_get1 rfl _ _ rfl _ _ rfl hM 0 rfl (cellTab _ rfl) (by omega) _ g2 ?_) | (go_at_call 66; refine (list_any s hs2 _ (HT.out.below hM.below)).mono ?_; rintro e W' hG; obtain ⟨la, lc, rfl, hlc, hL, hb'⟩ := hG.nums; have hM' := hM.call hb'; have HL := Lib.hid hL; clear hM hb' hG hL; have hM := hM'; clear hM'))
      have hmem : ∀ x, x ∈ bitsL s → s.testBit x = true := fun x hx => (mem_bitsL hs2).1 hx
      have Hmem := Lib.hid hmem
      have hlen := bitsL_len s
      have HB3 := Lib.hid (fun x (hx : x ∈ bitsL s) (h : foe d x k = false) => mutA_no hlt (mut_3 (d := d) (i := k) (k := x) (by rw [HTN.out]; exact hx) h))
      have HMY := Lib.hid (fun (h : ∀ x, x ∈ bitsL s → foe d x k = true) => show mutB d k = true from by
        unfold mutB
        rw [HTN.out, decide_eq_true (by rw [HS.out, HN.out]; have := HSN.out; exact_mod_cast this), HFO.out, HB.out]
        simpa using h)
      clear hmem
      have HL' := HL
      clear HL
      generalize bitsL s = l at *
      go_loopw [32] (fun i wr => ∃ j : Nat, j ≤ l.length ∧ i = .int .i64 j ∧ Hid (∀ q (hq : q < l.length), q < j → foe d l[q] k = true) ∧ Hid (NumsAt wr la l) ∧ Mem w [(b3, 3, gMem d k)] wr) (fun i _ => l.length - (intOf i).toNat)
      case atStart => exact ⟨0, by omega, rfl, Lib.hid (fun q _ h => absurd h (by omega)), HL', hM⟩
      case round =>
        clear hM HL'
        obtain ⟨j, hj, rfl, hall2, HL, hM⟩ := hrel
        by_cases hjl : j < l.length
        · have l3 : (j : Int) < l.length := by omega
          obtain ⟨bl, NL, FL, rfl, hNL, hFL, hAL⟩ := HL.out.at hjl
          have hbit := Hmem.out _ (List.getElem_mem hjl)
          have hxn : l[j] < n := bit_lt HSN.out hbit
          have hxin := List.getElem_mem hjl
          obtain ⟨x, hx⟩ : ∃ x, l[j] = x := ⟨_, rfl⟩
          rw [hx] at hFL hbit hxn hxin
          have hfx := HF.out x (by rw [HN.out]; exact hxn)
          have HAL := Lib.hid hAL
          have HX := Lib.hid hx
          clear hAL hx hbit
          cases hfo : foe d x k
          · have HFX := Lib.hid hfo
            have HZ := Lib.hid (HB3.out x hxin hfo)
            clear hfo hxin
            go_wp2_with (first | (refine wpList_getAt1 rfl _ _ rfl _ _ rfl HAL.out (cellTab _ rfl) (by omega) _ hFL ?_) | (go_at_call 70; refine (areFoes_any d _ n c x k hxn (by omega) hfx _ (HA.out.below hM.below)).mono ?_; rintro e W' ⟨rfl, hb'⟩; rw [HFX.out]; have hM' := hM.call hb'; clear hM hb'; have hM := hM'; clear hM'))
            go_ret
            rw [HZ.out]
            exact ⟨rfl, hM.below⟩
          · have HFX := Lib.hid hfo
            clear hfo hxin
            go_wp2_with (first | (refine wpList_getAt1 rfl _ _ rfl _ _ rfl HAL.out (cellTab _ rfl) (by omega) _ hFL ?_) | (go_at_call 70; refine (areFoes_any d _ n c x k hxn (by omega) hfx _ (HA.out.below hM.below)).mono ?_; rintro e W' ⟨rfl, hb'⟩; rw [HFX.out]; have hM' := hM.call hb'; have HL2 := Lib.hid (HL.out.below hb'); clear hM hb'; have hM := hM'; clear hM'))
            go_roundw
            case rel => exact ⟨j + 1, by omega, by go_num, Lib.hid (fun q hq hqj => by
              by_cases e : q = j
              · subst e; rw [HX.out]; exact HFX.out
              · exact hall2.out q hq (by omega)), HL2, hM⟩
            case measure => simp [intOf]; omega
        · obtain rfl : j = l.length := by omega
          have HZ := Lib.hid (HMY.out (fun x hx => by
            obtain ⟨q, hq, rfl⟩ := List.getElem_of_mem hx
            exact hall2.out q hq hq))
          go_wp2
          go_roundw
          case rel => exact ⟨k + 1, by omega, by go_num, Lib.hid (fun q hq => by
            by_cases e : q = k
            · rw [e]; exact HZ.out
            · exact hall.out q (by omega)), hM.drop⟩
          case measure => simp [intOf]; omega
    · obtain rfl : k = n := by omega
      have HZ := Lib.hid (mutA_yes hall.out)
      go_wp2
      go_ret
      rw [HZ.out]
      exact ⟨rfl, hM.below⟩
end Go.Proofs.YthodkbmenndnoaaDoor

