/-
  Several texts in one: UpTo, Names, Neq0, Eql0, ToldG, OpenHd, HerdL, GroupsM, MostM, Demand, StepSet.
-/
import Derived.Test.YthodkbmenndnoaaDoorP3
import Derived.Test.YthodkbmenndnoaaDoorP2
import Derived.Test.YthodkbmenndnoaaDoorP6
import Derived.Test.YthodkbmenndnoaaDoorP1
import Derived.Defers
import Derived.Recover
import Derived.WalkLawsBesides
/-
  impl.checkUpTo and impl.checkGrass by contracts.
-/
namespace Go.Proofs.YthodkbmenndnoaaDoor
open Go Go.RowKit Go.BigFrame

set_option maxHeartbeats 400000 in
theorem checkUpTo_no {a : Nat → Addr} (n m : Int) (w : World) (hE : Errs a w) (h : inB 0 m n = false) :
    Calls Tryd.prog 81 #[.int .i64 n, .int .i64 m] w fun e w' => e = .returned (errV (a 1)) ∧ Below w.heap.size w w' := by
  have v1 : w.cell? ⟨1, 0, none⟩ = some (errV (a 1)) := hE.vars 1 (by omega)
  have h' : ¬ (0 ≤ n ∧ n ≤ m) := of_decide_eq_false h
  clear hE h
  by_cases h0 : n < 0
  · clear h'
    go_enter Tryd.func81, Tryd.ntmps81
    go_wp2
    go_ret
    exact ⟨rfl, Below.refl _ _⟩
  · have h1 : m < n := by omega
    have d1 : decide (m < n) = true := decide_eq_true h1
    clear h'
    go_enter Tryd.func81, Tryd.ntmps81
    go_wp2
    go_ret
    exact ⟨rfl, Below.refl _ _⟩
set_option maxHeartbeats 400000 in
theorem checkUpTo_yes (n m : Int) (w : World) (h : inB 0 m n = true) :
    Calls Tryd.prog 81 #[.int .i64 n, .int .i64 m] w fun e w' => e = .returned .nilIface ∧ Below w.heap.size w w' := by
  obtain ⟨h0, h1⟩ := inB_true h
  have d0 : decide (n < 0) = false := decide_eq_false (by omega)
  have d1 : decide (m < n) = false := decide_eq_false (by omega)
  clear h h0 h1
  go_enter Tryd.func81, Tryd.ntmps81
  go_wp2
  go_ret
  exact ⟨rfl, Below.refl _ _⟩
end Go.Proofs.YthodkbmenndnoaaDoor

/-
  impl.isName, checkUpTo, (impl.member).isTold, spec.l06Name by contracts.
-/
namespace Go.Proofs.YthodkbmenndnoaaDoor
open Go Go.RowKit Go.BigFrame

theorem byteAt_eq {s : ByteArray} {k : Nat} (h : k < s.size) : (s[k]'h).toNat = byteAt s k := by
  unfold byteAt
  rw [ByteArray.getElem?_lt' s _ h]
  rfl
theorem byteAt_le (s : ByteArray) (k : Nat) : byteAt s k ≤ 255 := by
  by_cases h : k < s.size
  · rw [← byteAt_eq h]
    have := (s[k]'h).toNat_lt
    omega
  · unfold byteAt
    have : s[k]? = none := by simp; omega
    rw [this]; simp
theorem index_run {o : Oper} {a : Act} (x y : Operand) (ho : o.op = .index 9 x y) (s : ByteArray) (hx : a.eval x = .string s) (k : Nat) (hk : k < s.size) (hy : a.eval y = .int .i64 k) (W : World) :
    (execOp a.eval o).run Tryd.prog W = .ok (.value (.int .u8 (byteAt s k))) W := by
  have hb : 0 ≤ (k : Int) ∧ (k : Int) < s.size := by omega
  unfold execOp
  simp only [ho, hx, hy, Sem.run_bind, Sem.run_pure, run_index_string W 9 s .i64 (k : Int) Tryd.underlying9, dif_pos hb, Result.andThen_ok, Int.toNat_natCast]
  rw [byteAt_eq hk]
theorem wpList_index {ops : Array Oper} {rest : List Oper} {o : Oper} {a : Act} {W : World} {Q : Exit → Act → World → Prop} (hgd : o.guard = none) (x y : Operand) (ho : o.op = .index 9 x y) (s : ByteArray) (hx : a.eval x = .string s) (k : Nat) (hk : k < s.size) (hy : a.eval y = .int .i64 k) (v : Nat) (hv : byteAt s k = v)
    (h : wpList Tryd.prog ops Q rest (a.put o.dst (.int .u8 v)) W) : wpList Tryd.prog ops Q (o :: rest) a W := by
  refine wpList_plain hgd fun K hK => ?_
  unfold Oper.wp
  rw [index_run x y ho s hx k hk hy W, hv]
  exact hK _ _ h
theorem wpList_gindex {ops : Array Oper} {rest : List Oper} {o : Oper} {a : Act} {W : World} {Q : Exit → Act → World → Prop} (hw : Region.wanted o (yielded ops a.tmps) = true) (x y : Operand) (ho : o.op = .index 9 x y) (s : ByteArray) (hx : a.eval x = .string s) (k : Nat) (hk : k < s.size) (hy : a.eval y = .int .i64 k) (v : Nat) (hv : byteAt s k = v)
    (h : wpList Tryd.prog ops Q rest (a.put o.dst (.int .u8 v)) W) : wpList Tryd.prog ops Q (o :: rest) a W := by
  refine wpList_want hw fun K hK => ?_
  unfold Oper.wp
  rw [index_run x y ho s hx k hk hy W, hv]
  exact hK _ _ h

set_option maxRecDepth 100000 in
set_option maxHeartbeats 1000000 in
theorem isName_any (s : ByteArray) (w : World) :
    Calls Tryd.prog 82 #[.string s] w fun e w' => e = .returned (.bool (nameB s)) ∧ Below w.heap.size w w' := by
  by_cases h1 : s.size < 1
  · have d1 : decide ((s.size : Int) < 1) = true := decide_eq_true (by omega)
    have l1 : (s.size : Int) < 1 := by omega
    have hz : nameB s = false := by unfold nameB; rw [decide_eq_false (by omega)]; rfl
    rw [hz]
    go_enter Tryd.func82, Tryd.ntmps82
    go_wp2
    go_ret
    exact ⟨rfl, Below.refl _ _⟩
  by_cases h2 : 8 < s.size
  · have d1 : decide ((s.size : Int) < 1) = false := decide_eq_false (by omega)
    have d2 : decide ((8 : Int) < s.size) = true := decide_eq_true (by omega)
    have hz : nameB s = false := by unfold nameB; rw [decide_eq_false (by omega)]; rfl
    rw [hz]
    go_enter Tryd.func82, Tryd.ntmps82
    go_wp2
    go_ret
    exact ⟨rfl, Below.refl _ _⟩
  have d1 : decide ((s.size : Int) < 1) = false := decide_eq_false (by omega)
  have d2 : decide ((8 : Int) < s.size) = false := decide_eq_false (by omega)
  obtain ⟨n, hn⟩ : ∃ n, s.size = n := ⟨_, rfl⟩
  rw [hn] at h1 h2 d1 d2
  have Hn := Lib.hid hn
  have esz : (s.size : Int) = n := by omega
  clear hn
  go_enter Tryd.func82, Tryd.ntmps82
  go_wp2
  go_loop [14] (fun i => ∃ k : Nat, k ≤ n ∧ i = .int .i64 k ∧ Hid (∀ j, j < k → 97 ≤ byteAt s j ∧ byteAt s j ≤ 122)) (fun i => n - (intOf i).toNat)
  case atStart => exact ⟨0, by omega, rfl, Lib.hid (fun j hj => absurd hj (by omega))⟩
  case round =>
    obtain ⟨k, hk, rfl, hall⟩ := hrel
    by_cases hlt : k < n
    · have l2 : (k : Int) < n := by omega
      have hk2 : k < s.size := by rw [Hn.out]; exact hlt
      obtain ⟨v, hv⟩ : ∃ v, byteAt s k = v := ⟨_, rfl⟩
      by_cases c1 : v < 97
      · have e1 : decide ((v : Int) < 97) = true := decide_eq_true (by omega)
        have l1 : (v : Int) < 97 := by omega
        have HZ := Lib.hid (name_no hk2 (by omega))
        have Hv := Lib.hid hv
        clear hv
        go_wp2_with (first | (refine wpList_index rfl _ _ rfl s rfl k hk2 rfl v Hv.out ?_))
        go_ret
        rw [HZ.out]
        exact ⟨rfl, Below.refl _ _⟩
      by_cases c2 : 122 < v
      · have e1 : decide ((v : Int) < 97) = false := decide_eq_false (by omega)
        have e2 : decide ((122 : Int) < v) = true := decide_eq_true (by omega)
        have HZ := Lib.hid (name_no hk2 (by omega))
        have Hv := Lib.hid hv
        clear hv
        go_wp2_with (first | (refine wpList_index rfl _ _ rfl s rfl k hk2 rfl v Hv.out ?_) | (refine wpList_gindex ?_ _ _ rfl s rfl k hk2 rfl v Hv.out ?_; kernel_rfl))
        go_ret
        rw [HZ.out]
        exact ⟨rfl, Below.refl _ _⟩
      have e1 : decide ((v : Int) < 97) = false := decide_eq_false (by omega)
      have e2 : decide ((122 : Int) < v) = false := decide_eq_false (by omega)
      have HZ := Lib.hid (fun j (hj : j < k + 1) => show 97 ≤ byteAt s j ∧ byteAt s j ≤ 122 from by
        by_cases e : j = k
        · subst e; omega
        · exact hall.out j (by omega))
      have Hv := Lib.hid hv
      clear hv
      go_wp2_with (first | (refine wpList_index rfl _ _ rfl s rfl k hk2 rfl v Hv.out ?_) | (refine wpList_gindex ?_ _ _ rfl s rfl k hk2 rfl v Hv.out ?_; kernel_rfl))
      go_round
      case rel => exact ⟨k + 1, by omega, by go_num, HZ⟩
      case measure => simp [intOf]; omega
    · obtain rfl : k = n := by omega
      have hz : nameB s = true := by
        unfold nameB
        rw [decide_eq_true (by rw [Hn.out]; omega), nameU_iff.2 (by rw [Hn.out]; exact hall.out)]; rfl
      have HZ := Lib.hid hz
      clear hz
      go_wp2
      go_ret
      rw [HZ.out]
      exact ⟨rfl, Below.refl _ _⟩
end Go.Proofs.YthodkbmenndnoaaDoor

/-
  An error is not nil.
-/
namespace Go.Proofs.YthodkbmenndnoaaDoor
open Go Go.RowKit Go.BigFrame
@[go_sem] theorem guard_err (x : Operand) (a : Addr) (W : World) : (eqGuard .neq 85 x (.const .nilIface) (errV a) .nilIface).run Tryd.prog W = .ok () W := by
  unfold errV; go_simp
@[go_sem] theorem neq_err (a : Addr) (W : World) : (binOp .neq 85 (errV a) .nilIface).run Tryd.prog W = .ok (.bool true) W := by
  unfold errV; go_simp
end Go.Proofs.YthodkbmenndnoaaDoor

/-
  An error is not nil: for '=='.
-/
namespace Go.Proofs.YthodkbmenndnoaaDoor
open Go Go.RowKit Go.BigFrame
@[go_sem] theorem guardq_err (x : Operand) (a : Addr) (W : World) : (eqGuard .eql 85 x (.const .nilIface) (errV a) .nilIface).run Tryd.prog W = .ok () W := by
  unfold errV; go_simp
@[go_sem] theorem eql_err (a : Addr) (W : World) : (binOp .eql 85 (errV a) .nilIface).run Tryd.prog W = .ok (.bool false) W := by
  unfold errV; go_simp
end Go.Proofs.YthodkbmenndnoaaDoor

/-
  spec.l06Name; impl.checkUpTo, (impl.member).isTold, (impl.members).all, areFoes by contracts.
-/
namespace Go.Proofs.YthodkbmenndnoaaDoor
open Go Go.RowKit Go.BigFrame

/-- The variables that herds want: the error of a range, the table of bits. -/
structure HEnv (r : Addr) (W : World) : Prop where
  err : W.cell? ⟨1, 0, none⟩ = some (errV r)
  tab : Tab W
theorem HEnv.below {r : Addr} {W W' : World} (h : HEnv r W) (hb : Below W.heap.size W W') : HEnv r W' :=
  ⟨by rw [cell_below hb (block_lt_of_cell h.err)]; exact h.err, h.tab.below hb⟩

set_option maxRecDepth 100000 in
set_option maxHeartbeats 1000000 in
theorem l06Name_any (s : ByteArray) (hs : s.size ≤ maxLen) (w : World) :
    Calls Tryd.prog 79 #[.string s] w fun e w' => e = .returned (.bool (nameB s)) ∧ Below w.heap.size w w' := by
  have hM := Mem.nil w
  obtain ⟨n, hn⟩ : ∃ n, s.size = n := ⟨_, rfl⟩
  rw [hn] at hs
  unfold maxLen at hs
  have Hn := Lib.hid hn
  have esz : (s.size : Int) = n := by omega
  clear hn
  go_enter Tryd.func79, Tryd.ntmps79
  go_wp2
  go_loop [3] (fun i => ∃ k : Nat, k ≤ n ∧ i = .int .i64 k ∧ Hid (∀ j, j < k → 97 ≤ byteAt s j ∧ byteAt s j ≤ 122)) (fun i => n - (intOf i).toNat)
  case atStart => exact ⟨0, by omega, rfl, Lib.hid (fun j hj => absurd hj (by omega))⟩
  case round =>
    obtain ⟨k, hk, rfl, hall⟩ := hrel
    by_cases hlt : k < n
    · have l2 : (k : Int) < n := by omega
      have hk2 : k < s.size := by rw [Hn.out]; exact hlt
      obtain ⟨v, hv⟩ : ∃ v, byteAt s k = v := ⟨_, rfl⟩
      by_cases c1 : v < 97
      · have e1 : decide ((v : Int) < 97) = true := decide_eq_true (by omega)
        have l1 : (v : Int) < 97 := by omega
        have HZ := Lib.hid (name_no hk2 (by omega))
        have Hv := Lib.hid hv
        clear hv
        go_wp2_with (first | (refine wpList_index rfl _ _ rfl s rfl k hk2 rfl v Hv.out ?_))
        go_ret
        rw [HZ.out]
        exact ⟨rfl, hM.below⟩
      by_cases c2 : 122 < v
      · have e1 : decide ((v : Int) < 97) = false := decide_eq_false (by omega)
        have e2 : decide ((122 : Int) < v) = true := decide_eq_true (by omega)
        have HZ := Lib.hid (name_no hk2 (by omega))
        have Hv := Lib.hid hv
        clear hv
        go_wp2_with (first | (refine wpList_index rfl _ _ rfl s rfl k hk2 rfl v Hv.out ?_) | (refine wpList_gindex ?_ _ _ rfl s rfl k hk2 rfl v Hv.out ?_; kernel_rfl))
        go_ret
        rw [HZ.out]
        exact ⟨rfl, hM.below⟩
      have e1 : decide ((v : Int) < 97) = false := decide_eq_false (by omega)
      have e2 : decide ((122 : Int) < v) = false := decide_eq_false (by omega)
      have HZ := Lib.hid (fun j (hj : j < k + 1) => show 97 ≤ byteAt s j ∧ byteAt s j ≤ 122 from by
        by_cases e : j = k
        · subst e; omega
        · exact hall.out j (by omega))
      have Hv := Lib.hid hv
      clear hv
      go_wp2_with (first | (refine wpList_index rfl _ _ rfl s rfl k hk2 rfl v Hv.out ?_) | (refine wpList_gindex ?_ _ _ rfl s rfl k hk2 rfl v Hv.out ?_; kernel_rfl))
      go_round
      case rel => exact ⟨k + 1, by omega, by go_num, HZ⟩
      case measure => simp [intOf]; omega
    · obtain rfl : k = n := by omega
      have hz : nameB s = inB 1 8 (k : Int) := by
        unfold nameB inB
        rw [nameU_iff.2 (by rw [Hn.out]; exact hall.out), Bool.and_true, Hn.out]
        exact decide_eq_decide.2 (by omega)
      have HZ := Lib.hid hz
      clear hz
      go_wp2_with (first | (go_at_call 78; (with_reducible refine (l00In_any (k : Int) 1 8 _).mono ?_); rintro e W' ⟨rfl, hb'⟩; have hM' := hM.call hb'; clear hM hb'; have hM := hM'; clear hM'))
      go_ret
      rw [HZ.out]
      exact ⟨rfl, hM.below⟩

set_option maxHeartbeats 400000 in
theorem checkUpTo_noR {r : Addr} (n m : Int) (w : World) (hE : HEnv r w) (h : inB 0 m n = false) :
    Calls Tryd.prog 81 #[.int .i64 n, .int .i64 m] w fun e w' => e = .returned (errV r) ∧ Below w.heap.size w w' := by
  have v1 := hE.err
  have h' : ¬ (0 ≤ n ∧ n ≤ m) := of_decide_eq_false h
  clear hE h
  by_cases h0 : n < 0
  · clear h'
    go_enter Tryd.func81, Tryd.ntmps81
    go_wp2
    go_ret
    exact ⟨rfl, Below.refl _ _⟩
  · have h1 : m < n := by omega
    have d1 : decide (m < n) = true := decide_eq_true h1
    clear h'
    go_enter Tryd.func81, Tryd.ntmps81
    go_wp2
    go_ret
    exact ⟨rfl, Below.refl _ _⟩

set_option maxRecDepth 100000 in
set_option maxHeartbeats 1000000 in
theorem isTold_any {r : Addr} (d : Hd) (k : Nat) (he : -32768 ≤ d.es k ∧ d.es k ≤ 32767) (w : World) (hE : HEnv r w) :
    Calls Tryd.prog 57 #[.agg (arr 3 (gMem d k))] w fun e w' => e = .returned (.bool (toldB d k)) ∧ Below w.heap.size w w' := by
  have hM := Mem.nil w
  have HE := Lib.hid hE
  clear hE
  have g0 : gMem d k 0 = .string (d.ss k) := rfl
  have g1 : gMem d k 1 = .int .i16 (d.es k) := rfl
  have c1 : IntKind.i64.wrap (d.es k) = d.es k := IntWalk.i64_in _ (by omega)
  have ht : toldB d k = (nameB (d.ss k) && inB 0 100 (d.es k)) := rfl
  rw [ht]
  clear ht
  generalize gMem d k = g at g0 g1 ⊢
  generalize d.ss k = s at *
  generalize d.es k = x at *
  cases hn : nameB s
  · have Hn := Lib.hid hn
    clear hn
    have tk_b1 : True := trivial
    go_enter Tryd.func57, Tryd.ntmps57
    go_wp2_with (first | (have _t := tk_b1; refine wpList_box rfl _ _ rfl _ _ rfl hM ?_; intro b1 W' hb1 hM'; clear hM tk_b1; have hM := hM'; clear hM') | (refine wpList_get1 rfl _ _ rfl _ _ rfl hM 0 rfl (cellTab _ rfl) (by omega) _ g0 ?_) | (go_at_call 82; refine (isName_any s _).mono ?_; rintro e W' ⟨rfl, hb'⟩; rw [Hn.out]; have hM' := hM.call hb'; clear hM hb'; have hM := hM'; clear hM'))
    go_ret
    exact ⟨rfl, hM.below⟩
  have Hn := Lib.hid hn
  clear hn
  cases hi : inB 0 100 x
  · have Hi := Lib.hid hi
    clear hi
    have tk_b1 : True := trivial
    go_enter Tryd.func57, Tryd.ntmps57
    go_wp2_with (first | (have _t := tk_b1; refine wpList_box rfl _ _ rfl _ _ rfl hM ?_; intro b1 W' hb1 hM'; clear hM tk_b1; have hM := hM'; clear hM') | (refine wpList_get1 rfl _ _ rfl _ _ rfl hM 0 rfl (cellTab _ rfl) (by omega) _ g0 ?_) | (go_at_call 82; refine (isName_any s _).mono ?_; rintro e W' ⟨rfl, hb'⟩; rw [Hn.out]; have hM' := hM.call hb'; clear hM hb'; have hM := hM'; clear hM') | (refine wpList_gget1 ?_ _ _ rfl _ _ rfl hM 0 rfl (cellTab _ rfl) (by omega) _ g1 ?_; kernel_rfl) | (go_at_call 81; (with_reducible refine (checkUpTo_noR x 100 _ (HE.out.below hM.below) Hi.out).mono ?_); rintro e W' ⟨rfl, hb'⟩; have hM' := hM.call hb'; clear hM hb'; have hM := hM'; clear hM'))
    go_ret
    exact ⟨rfl, hM.below⟩
  · have Hi := Lib.hid hi
    clear hi
    have tk_b1 : True := trivial
    go_enter Tryd.func57, Tryd.ntmps57
    go_wp2_with (first | (have _t := tk_b1; refine wpList_box rfl _ _ rfl _ _ rfl hM ?_; intro b1 W' hb1 hM'; clear hM tk_b1; have hM := hM'; clear hM') | (refine wpList_get1 rfl _ _ rfl _ _ rfl hM 0 rfl (cellTab _ rfl) (by omega) _ g0 ?_) | (go_at_call 82; refine (isName_any s _).mono ?_; rintro e W' ⟨rfl, hb'⟩; rw [Hn.out]; have hM' := hM.call hb'; clear hM hb'; have hM := hM'; clear hM') | (refine wpList_gget1 ?_ _ _ rfl _ _ rfl hM 0 rfl (cellTab _ rfl) (by omega) _ g1 ?_; kernel_rfl) | (go_at_call 81; (with_reducible refine (checkUpTo_yes x 100 _ Hi.out).mono ?_); rintro e W' ⟨rfl, hb'⟩; have hM' := hM.call hb'; clear hM hb'; have hM := hM'; clear hM'))
    go_ret
    exact ⟨rfl, hM.below⟩

set_option maxHeartbeats 400000 in
theorem all_any (a : Option Addr) (n c : Nat) (hn : n ≤ 14) (s : Nat) (hs : 2 ^ n - 1 = s) (w : World) :
    Calls Tryd.prog 101 #[.slice a n c] w fun e w' => e = .returned (.int .u16 s) ∧ Below w.heap.size w w' := by
  have h0 : (0 : Int) ≤ n := by omega
  have h1 : (n : Int) ≤ 16 := by omega
  have h2 := u16_two n (by omega)
  have h3 : 0 < 2 ^ n := Nat.two_pow_pos n
  obtain ⟨p, hp⟩ : ∃ p, 2 ^ n = p := ⟨_, rfl⟩
  rw [hp] at h2 h3 hs
  have e : IntKind.u16.wrap (2 ^ n) = (p : Int) := by
    rw [← hp, ← IntWalk.u16_in ((2 ^ n : Nat) : Int) ⟨Int.natCast_nonneg _, by omega⟩]; simp
  have e2 : IntKind.u16.wrap ((p : Int) - 1) = (s : Int) := by rw [IntWalk.u16_in _ (by omega)]; omega
  clear hs hp
  go_enter Tryd.func101, Tryd.ntmps101
  go_wp2
  go_ret
  exact ⟨rfl, Below.refl _ _⟩

set_option maxRecDepth 100000 in
set_option maxHeartbeats 1000000 in
theorem areFoes_any (d : Hd) (a : Option Addr) (n c i k : Nat) (hi : i < n) (hk : k < 16) (hf : 0 ≤ d.fs i ∧ d.fs i ≤ 65535) (w : World) (hA : MemsAt w a n d) :
    Calls Tryd.prog 70 #[.slice a n c, .int .i64 i, .int .i64 k] w fun e w' => e = .returned (.bool (foe d i k)) ∧ Below w.heap.size w w' := by
  have hM := Mem.nil w
  obtain ⟨b, N, F, rfl, hN, -, hF, hAt⟩ := hA.row hi
  obtain ⟨s, hs⟩ : ∃ s : Nat, d.fs i = s := ⟨(d.fs i).toNat, by omega⟩
  have f2 : F (i * 3 + 2) = .int .u16 s := (hF 2 (by omega)).trans (by rw [← hs]; rfl)
  have hs2 : s < 65536 := by omega
  have he : foe d i k = s.testBit k := by unfold foe; rw [hs]; rfl
  have l2 : (i : Int) < n := by omega
  rw [he]
  have HT := Lib.hid hAt
  clear hA hF hAt hs hf he
  go_enter Tryd.func70, Tryd.ntmps70
  go_wp2_with (first | (refine wpList_getAt1 rfl _ _ rfl _ _ rfl HT.out (cellTab _ rfl) (by omega) _ f2 ?_) | (go_at_call 105; refine (has_any s hs2 k hk _).mono ?_; rintro e W' ⟨rfl, hb'⟩; have hM' := hM.call hb'; clear hM hb'; have hM := hM'; clear hM'))
  go_ret
  exact ⟨rfl, hM.below⟩
end Go.Proofs.YthodkbmenndnoaaDoor

/-
  What the rows over herds take out of their condition: the table of bits, the errors; a herd out of its reading.
-/
namespace Go.Proofs.YthodkbmenndnoaaDoor
open Go Go.RowKit Go.ChangeShapes Go.WideShapes Go.ChangeAt

theorem tab_data {H : Type} : (Rows.laid_math_bits_deBruijn32tab : DataW H) = .agg (Lib.deBruijn32tab.map fun n => .lit (.int .u8 (n : Nat))) := rfl
theorem tab_len : Lib.deBruijn32tab.length = 32 := by decide
set_option maxRecDepth 100000 in
/-- The table's cells. -/
theorem tab_of {W : World} {g : Nat} {t : TypeId} {cs : Array Value} {fuel : Nat} {p : List MemPlace}
    (hg : Tryd.prog.globalNamed "math/bits.deBruijn32tab" = some g) (ht : (Tryd.prog.globals[g]?).map (·.type) = some t) (hv : W.var? Tryd.prog "math/bits.deBruijn32tab" = some cs)
    (hd : DataW.trod (fun _ => ()) Tryd.prog W 0 (fun _ => true) false fuel t cs.toList = some (Rows.laid_math_bits_deBruijn32tab, p)) : Tab W := by
  obtain rfl := Option.some.inj ((show Tryd.prog.globalNamed "math/bits.deBruijn32tab" = some 8 by kernel_rfl).symm.trans hg)
  obtain rfl := Option.some.inj ((show (Tryd.prog.globals[8]?).map (·.type) = some 168 by kernel_rfl).symm.trans ht)
  obtain ⟨xs, m1, -, hx1, hlen, hn, hel⟩ := DataW.trod_array Tryd.underlying168 hd
  have c9 : Tryd.prog.cellsOf 5 = 1 := by kernel_rfl
  rw [c9] at hel
  simp only [Prod.mk.injEq] at hx1
  have hd := hx1.1
  rw [tab_data, DataW.agg.injEq] at hd
  have hlx : xs.length = 32 := by
    have := congrArg List.length hd
    rw [List.length_map, List.length_map, tab_len] at this
    exact this.symm
  intro k hk
  have hc := World.var?_cell hg hv k
  rw [hc]
  obtain ⟨x, hx⟩ : ∃ x, xs[k]? = some x := ⟨xs[k]'(by omega), List.getElem?_eq_getElem (by omega)⟩
  have h1 := hel k hk
  rw [hx] at h1
  obtain ⟨s, e1, rfl, -⟩ := DataW.trod_int Tryd.underlying5 h1
  have hcs : cs[k]? = some (.int .u8 s) := by
    have := congrArg (fun l => l[0]?) e1
    simpa [List.getElem?_take, List.getElem?_drop] using this
  rw [hcs]
  have hk2 : (xs.map (·.1))[k]? = some (.lit (.int .u8 s)) := by simp [hx]
  rw [← hd, List.getElem?_map] at hk2
  have hk3 : Lib.deBruijn32tab[k]? = some (Lib.deBruijn32tab.getD k 0) := by
    rw [List.getD_eq_getElem?_getD, List.getElem?_eq_getElem (by rw [tab_len]; exact hk)]; rfl
  rw [hk3] at hk2
  simp only [Option.map_some, Option.some.injEq] at hk2
  have hk4 : ((Lib.deBruijn32tab.getD k 0 : Nat) : Int) = s := by simpa using hk2
  rw [hk4]

/-- What the rows of chapter 6 give: the errors, the table. -/
def HEnvs (a : Nat → Addr) (W : World) : Prop := Errs a W ∧ Tab W
theorem HEnvs.one {a : Nat → Addr} {W : World} (h : HEnvs a W) : HEnv (a 1) W := ⟨h.1.vars 1 (by omega), h.2⟩
theorem HEnvs.below {a : Nat → Addr} {W W' : World} (h : HEnvs a W) (hb : Below W.heap.size W W') : HEnvs a W' := ⟨h.1.below hb, h.2.below hb⟩
theorem henvs_of_laid {W : World} (h : laidMetH Tryd.prog errsLaid W) : ∃ a, HEnvs a W := by
  obtain ⟨a, hE⟩ := errs_of_laid h
  refine ⟨a, hE, ?_⟩
  rw [MakeChecks.laidMetH_plain _ _ _ (by kernel_rfl)] at h
  obtain ⟨ps, ⟨gT, tT, csT, fT, pT, qT, hgT, htT, hvT, hdT, -⟩, -⟩ := h
  exact tab_of hgT htT hvT hdT
theorem henv_of_laid {W : World} (h : laidMetH Tryd.prog Rows.fnExactValidHerdRow.laid W) : ∃ r, HEnv r W := by
  rw [MakeChecks.laidMetH_plain _ _ _ (by kernel_rfl)] at h
  obtain ⟨ps, ⟨gT, tT, csT, fT, pT, qT, hgT, htT, hvT, hdT, ⟨g1, t1, cs1, f1, p1, q1, hg1, ht1, hv1, hd1, _, e1⟩, eT⟩, hnd, hrows⟩ := h
  subst e1 eT
  obtain ⟨a1, v1, c1, rfl⟩ := err_of_laid 1 (by omega) hg1 ht1 hv1 hd1 (fun b off hm => hrows b off (by simp only [List.mem_append] at hm ⊢; rcases hm with h | h <;> simp [h]))
  exact ⟨a1, v1, tab_of hgT htT hvT hdT⟩
theorem many1_of {α : Type} {l : List α} (h : l.length = 1) : ∃ x0, l = [x0] := by
  match l, h with
  | [x0], _ => exact ⟨x0, rfl⟩
end Go.Proofs.YthodkbmenndnoaaDoor

/-
  Laws over herds: a herd's blocks out of the memory of a law.
-/
namespace Go.Proofs.YthodkbmenndnoaaDoor
open Go Go.RowKit Go.BigFrame

theorem hdB_ge {d : Hd} {b1 b2 b3 s : Nat} (h1 : s ≤ b1) (h2 : s ≤ b2) (h3 : s ≤ b3) : ∀ (i : Nat) (p : Nat × Nat × (Nat → Value)), (hdB d b1 b2 b3)[i]? = some p → s ≤ p.1 := fun i p h => by
  rcases i with _ | _ | _ | i <;> simp [hdB] at h <;> (rw [← h]; assumption)
theorem hdV_one (d : Hd) (b1 b2 b3 k : Nat) : (hdV d b1 b2 b3 k).oneCell' = true := by
  unfold hdV h3
  (repeat' split) <;> rfl
theorem three_of {b0 : Base} {L : Blocks} {X : World} {d : Hd} {b1 b2 b3 : Nat} (h : Mem b0 L X) (i : Nat) (hi : (L.drop i).take 3 = hdB d b1 b2 b3) : Mem X (hdB d b1 b2 b3) X := by
  have key : ∀ (q : Nat) (p : Nat × Nat × (Nat → Value)), (hdB d b1 b2 b3)[q]? = some p → L[i + q]? = some p := fun q p hq => by
    rw [← hi, List.getElem?_take] at hq
    split at hq
    · rwa [List.getElem?_drop] at hq
    · simp at hq
  have hM := h.base (w' := Base.of X) (Below.refl _ _)
  exact ⟨hM.good, fun q b n f hq => hM.ats _ b n f (key q _ hq), fun q r p s hq hr hne => hM.apart _ _ p s (key q _ hq) (key r _ hr) (by omega)⟩
end Go.Proofs.YthodkbmenndnoaaDoor

/-
  PLAIN: numbers of groups; the first quarrel.
-/
namespace Go.Proofs.YthodkbmenndnoaaDoor
open Go Go.RowKit

def numU (ys : Nat → Int) : Nat → Bool
  | 0 => true
  | j + 1 => numU ys j && inB 0 13 (ys j)
theorem numU_iff {ys : Nat → Int} : ∀ {n : Nat}, numU ys n = true ↔ ∀ j, j < n → 0 ≤ ys j ∧ ys j ≤ 13
  | 0 => by simp [numU]
  | n + 1 => by
    simp only [numU, Bool.and_eq_true, numU_iff (n := n), inB, decide_eq_true_eq]
    constructor
    · intro ⟨h1, h2⟩ k hk
      rcases Nat.lt_succ_iff_lt_or_eq.1 hk with h | rfl
      · exact h1 k h
      · exact h2
    · intro h
      exact ⟨fun k hk => h k (by omega), h n (by omega)⟩
theorem numU_no {ys : Nat → Int} {n k : Nat} (hk : k < n) (h : inB 0 13 (ys k) = false) : numU ys n = false := by
  cases e : numU ys n with
  | false => rfl
  | true => have := numU_iff.1 e k hk; rw [inB_yes this] at h; exact absurd h (by decide)
/-- Are groups told for all goats? -/
def numsB (d : Hd) (n : Nat) (ys : Nat → Int) : Bool := decide (n = d.n1) && numU ys n
theorem numsB_iff {d : Hd} {n : Nat} {ys : Nat → Int} : numsB d n ys = true ↔ n = d.n1 ∧ ∀ j, j < n → 0 ≤ ys j ∧ ys j ≤ 13 := by
  simp only [numsB, Bool.and_eq_true, decide_eq_true_eq, numU_iff]
/-- Two foes in one group. -/
def qAt (d : Hd) (ys : Nat → Int) (i k : Nat) : Bool := decide (ys i = ys k) && foe d i k
/-- The first one behind i below m with whom i is in one group as a foe. -/
def quarK (d : Hd) (ys : Nat → Int) (i : Nat) : Nat → Option Nat
  | 0 => none
  | m + 1 => match quarK d ys i m with
    | some k => some k
    | none => if i < m ∧ qAt d ys i m = true then some m else none
def quarI (d : Hd) (ys : Nat → Int) (n : Nat) : Nat → Option (Nat × Nat)
  | 0 => none
  | m + 1 => match quarI d ys n m with
    | some p => some p
    | none => (quarK d ys m n).map fun k => (m, k)
theorem quarK_none {d : Hd} {ys : Nat → Int} {i : Nat} : ∀ {m : Nat}, quarK d ys i m = none ↔ ∀ k, k < m → i < k → qAt d ys i k = false
  | 0 => by simp [quarK]
  | m + 1 => by
    have ih := quarK_none (d := d) (ys := ys) (i := i) (m := m)
    simp only [quarK]
    cases e : quarK d ys i m with
    | some k =>
      rw [e] at ih
      constructor
      · intro h; cases h
      · intro h
        exact absurd (ih.2 (fun k hk hi => h k (by omega) hi)) (by simp)
    | none =>
      have h0 := ih.1 e
      constructor
      · intro h k hk hi
        rcases Nat.lt_succ_iff_lt_or_eq.1 hk with h' | rfl
        · exact h0 k h' hi
        · cases hq : qAt d ys i k with
          | false => rfl
          | true => rw [if_pos ⟨hi, hq⟩] at h; cases h
      · intro h
        rw [if_neg]
        rintro ⟨hi, hq⟩
        rw [h m (by omega) hi] at hq
        cases hq
theorem quarK_at {d : Hd} {ys : Nat → Int} {i k : Nat} (h0 : quarK d ys i k = none) (hi : i < k) (hq : qAt d ys i k = true) : ∀ m, k < m → quarK d ys i m = some k
  | 0, h => by omega
  | m + 1, h => by
    simp only [quarK]
    rcases Nat.lt_succ_iff_lt_or_eq.1 h with h' | rfl
    · rw [quarK_at h0 hi hq m h']
    · rw [h0, if_pos ⟨hi, hq⟩]
theorem quarI_step {d : Hd} {ys : Nat → Int} {n m : Nat} (h0 : quarI d ys n m = none) (h1 : quarK d ys m n = none) : quarI d ys n (m + 1) = none := by simp [quarI, h0, h1]
theorem quarI_at {d : Hd} {ys : Nat → Int} {n i k : Nat} (h0 : quarI d ys n i = none) (h1 : quarK d ys i n = some k) : ∀ m, i < m → quarI d ys n m = some (i, k)
  | 0, h => by omega
  | m + 1, h => by
    simp only [quarI]
    rcases Nat.lt_succ_iff_lt_or_eq.1 h with h' | rfl
    · rw [quarI_at h0 h1 m h']
    · rw [h0, h1]; rfl
/-- The bits of all goats. -/
theorem bits_all {n : Nat} (hn : n ≤ 14) : bitsL (2 ^ n - 1) = List.range n := by
  unfold bitsL
  have e : List.range 16 = List.range n ++ (List.range (16 - n)).map (n + ·) := by rw [← List.range_add]; congr 1; omega
  rw [e, List.filter_append]
  have e1 : (List.range n).filter (fun k => (2 ^ n - 1).testBit k) = List.range n := by
    rw [List.filter_eq_self]
    intro a ha
    rw [Nat.testBit_two_pow_sub_one]
    simpa using ha
  have e2 : ((List.range (16 - n)).map (n + ·)).filter (fun k => (2 ^ n - 1).testBit k) = [] := by
    rw [List.filter_eq_nil_iff]
    intro a ha
    simp at ha
    obtain ⟨q, -, rfl⟩ := ha
    rw [Nat.testBit_two_pow_sub_one]
    simp
  rw [e1, e2, List.append_nil]
theorem bitsL_sorted (s : Nat) : (bitsL s).Pairwise (· < ·) := List.Pairwise.filter _ List.pairwise_lt_range
/-- What lies below the j-th bit and is a bit is an earlier one. -/
theorem bits_before {s j x : Nat} (hs : s < 65536) (hj : j < (bitsL s).length) (hx : x < (bitsL s)[j]) (hb : s.testBit x = true) : ∃ q, ∃ hq : q < (bitsL s).length, q < j ∧ (bitsL s)[q] = x := by
  obtain ⟨q, hq, e⟩ := List.getElem_of_mem ((mem_bitsL hs).2 hb)
  refine ⟨q, hq, ?_, e⟩
  refine Nat.lt_of_not_le fun hle => ?_
  rcases Nat.eq_or_lt_of_le hle with rfl | hlt
  · omega
  · have := List.pairwise_iff_getElem.1 (bitsL_sorted s) j q hj hq hlt
    omega
end Go.Proofs.YthodkbmenndnoaaDoor

/-
  PLAIN: the most mates, of several such lists the first one: by sets in a row, and by the first one with and without.
-/
namespace Go.Proofs.YthodkbmenndnoaaDoor
open Go Go.RowKit

/-- Of two lists of one length: is one less? -/
def lessL : List Nat → List Nat → Bool
  | a :: l, b :: m => if a = b then lessL l m else decide (a < b)
  | [], _ => false
  | _ :: _, [] => false
theorem lessL_self : ∀ l, lessL l l = false
  | [] => rfl
  | a :: l => by simp [lessL, lessL_self l]
theorem lessL_trans : ∀ {a b c : List Nat}, lessL a b = true → lessL b c = true → lessL a c = true
  | [], _, _, h, _ => by simp [lessL] at h
  | _ :: _, [], _, h, _ => by simp [lessL] at h
  | _ :: _, _ :: _, [], _, h => by simp [lessL] at h
  | x :: xs, y :: ys, z :: zs, h1, h2 => by
    simp only [lessL] at *
    by_cases e1 : x = y
    · subst e1
      rw [if_pos rfl] at h1
      by_cases e2 : x = z
      · subst e2
        rw [if_pos rfl] at h2 ⊢
        exact lessL_trans h1 h2
      · rw [if_neg e2] at h2 ⊢; exact h2
    · rw [if_neg e1] at h1
      have g1 := of_decide_eq_true h1
      by_cases e2 : y = z
      · subst e2
        rw [if_neg e1]; exact h1
      · rw [if_neg e2] at h2
        have g2 := of_decide_eq_true h2
        rw [if_neg (by omega)]
        exact decide_eq_true (by omega)
theorem lessL_tot : ∀ {a b : List Nat}, a.length = b.length → lessL a b = false → lessL b a = false → a = b
  | [], [], _, _, _ => rfl
  | [], _ :: _, h, _, _ => by simp at h
  | _ :: _, [], h, _, _ => by simp at h
  | x :: xs, y :: ys, h, h1, h2 => by
    simp only [lessL] at *
    by_cases e : x = y
    · subst e
      rw [if_pos rfl] at h1 h2
      rw [lessL_tot (by simpa using h) h1 h2]
    · rw [if_neg e] at h1
      rw [if_neg (fun h => e h.symm)] at h2
      have := of_decide_eq_false h1
      have := of_decide_eq_false h2
      omega
/-- One is longer, or as long and not behind the other. -/
def beats (T T' : List Nat) : Prop := T'.length < T.length ∨ (T'.length = T.length ∧ lessL T' T = false)
theorem beats_eq {T T' : List Nat} (h1 : beats T T') (h2 : beats T' T) : T = T' := by
  rcases h1 with h1 | ⟨h1, g1⟩ <;> rcases h2 with h2 | ⟨h2, g2⟩
  · omega
  · omega
  · omega
  · exact lessL_tot h2 g2 g1
theorem beats_self (T : List Nat) : beats T T := .inr ⟨rfl, lessL_self T⟩
theorem beats_cons {T T' : List Nat} (f : Nat) (h : beats T T') : beats (f :: T) (f :: T') := by
  rcases h with h | ⟨h, g⟩
  · exact .inl (by simpa using h)
  · exact .inr ⟨by simpa using h, by simp only [lessL]; simpa using g⟩
def mostL (p : Nat → Nat → Bool) : List Nat → List Nat
  | [] => []
  | f :: r => if (f :: mostL p (r.filter (p f))).length < (mostL p r).length then mostL p r else f :: mostL p (r.filter (p f))
termination_by l => l.length
decreasing_by all_goals (simp_wf; try have := List.length_filter_le (p f) r; try omega)
theorem mostL_cons (p : Nat → Nat → Bool) (f : Nat) (r : List Nat) : mostL p (f :: r) = if (f :: mostL p (r.filter (p f))).length < (mostL p r).length then mostL p r else f :: mostL p (r.filter (p f)) := by
  rw [mostL]
theorem mostL_nil (p : Nat → Nat → Bool) : mostL p [] = [] := by rw [mostL]
theorem mostL_best (p : Nat → Nat → Bool) : ∀ (m : Nat) (l : List Nat), l.length ≤ m → l.Pairwise (· < ·) → (mostL p l).Sublist l ∧ (mostL p l).Pairwise (fun a b => p a b = true) ∧ ∀ T : List Nat, T.Sublist l → T.Pairwise (fun a b => p a b = true) → beats (mostL p l) T
  | _, [], _, _ => by
    rw [mostL_nil]
    exact ⟨List.Sublist.refl _, List.Pairwise.nil, fun T hT _ => by rw [List.sublist_nil.1 hT]; exact beats_self _⟩
  | 0, _ :: _, h, _ => by simp at h
  | m + 1, f :: r, h, hs => by
    have hr : r.length ≤ m := by simpa using h
    obtain ⟨hf, hs'⟩ := List.pairwise_cons.1 hs
    obtain ⟨a1, a2, a3⟩ := mostL_best p m r hr hs'
    obtain ⟨b1, b2, b3⟩ := mostL_best p m (r.filter (p f)) (Nat.le_trans (List.length_filter_le _ _) hr) (hs'.filter _)
    have w1 : (f :: mostL p (r.filter (p f))).Sublist (f :: r) := (b1.trans List.filter_sublist).cons_cons f
    have w2 : (f :: mostL p (r.filter (p f))).Pairwise (fun a b => p a b = true) := List.pairwise_cons.2 ⟨fun x hx => (List.mem_filter.1 (b1.subset hx)).2, b2⟩
    have w3 : ∀ T'' : List Nat, T''.Sublist r → (f :: T'').Pairwise (fun a b => p a b = true) → beats (f :: mostL p (r.filter (p f))) (f :: T'') := fun T'' hT hp => by
      obtain ⟨q1, q2⟩ := List.pairwise_cons.1 hp
      refine beats_cons f (b3 T'' ?_ q2)
      have e : T''.filter (p f) = T'' := List.filter_eq_self.2 q1
      rw [← e]
      exact hT.filter _
    rw [mostL_cons]
    by_cases hlt : (f :: mostL p (r.filter (p f))).length < (mostL p r).length
    · rw [if_pos hlt]
      refine ⟨a1.cons f, a2, fun T hT hp => ?_⟩
      rcases List.sublist_cons_iff.1 hT with hT | ⟨T'', rfl, hT2⟩
      · exact a3 T hT hp
      · have := w3 T'' hT2 hp
        refine .inl ?_
        rcases this with h | ⟨h, -⟩ <;> omega
    · rw [if_neg hlt]
      refine ⟨w1, w2, fun T hT hp => ?_⟩
      rcases List.sublist_cons_iff.1 hT with hT | ⟨T'', rfl, hT2⟩
      · have hb := a3 T hT hp
        have hle : T.length ≤ (f :: mostL p (r.filter (p f))).length := by rcases hb with h | ⟨h, -⟩ <;> omega
        rcases Nat.lt_or_eq_of_le hle with hl | hl
        · exact .inl hl
        · refine .inr ⟨hl, ?_⟩
          cases T with
          | nil => simp at hl
          | cons t ts =>
            have ht : f < t := hf t (hT.subset (List.mem_cons_self ..))
            simp only [lessL]
            rw [if_neg (by omega)]
            exact decide_eq_false (by omega)
      · exact w3 T'' hT2 hp

/-- Is a set one of such whose later goats and earlier ones are foes, or are not? -/
def bitsB (s i : Nat) : List Nat := (List.range i).filter fun k => s.testBit k
def goodU (d : Hd) (b : Bool) (s : Nat) : Nat → Bool
  | 0 => true
  | i + 1 => if s.testBit i = true then goodU d b s i && (bitsB s i).all (fun k => foe d i k == b) else goodU d b s i
theorem bitsB_succ (s i : Nat) : bitsB s (i + 1) = if s.testBit i = true then bitsB s i ++ [i] else bitsB s i := by
  unfold bitsB
  rw [List.range_succ, List.filter_append]
  by_cases h : s.testBit i = true
  · rw [if_pos h]; simp [h]
  · rw [if_neg h]; simp [h]
theorem goodU_iff {d : Hd} {b : Bool} {s : Nat} : ∀ {i : Nat}, goodU d b s i = true ↔ (bitsB s i).Pairwise (fun k i => (foe d i k == b) = true)
  | 0 => by simp [goodU, bitsB]
  | i + 1 => by
    rw [bitsB_succ]
    simp only [goodU]
    by_cases h : s.testBit i = true
    · rw [if_pos h, if_pos h, Bool.and_eq_true, goodU_iff (i := i), List.pairwise_append, List.all_eq_true]
      constructor
      · rintro ⟨h1, h2⟩
        exact ⟨h1, List.pairwise_singleton _ _, fun a ha c hc => by rw [List.mem_singleton.1 hc]; exact h2 a ha⟩
      · rintro ⟨h1, -, h2⟩
        exact ⟨h1, fun a ha => h2 a ha i (List.mem_singleton.2 rfl)⟩
    · rw [if_neg h, if_neg h, goodU_iff (i := i)]
theorem bitsB_eq {s n : Nat} (hs : s < 2 ^ n) (hn : n ≤ 16) : bitsB s n = bitsL s := by
  unfold bitsB bitsL
  have e : List.range 16 = List.range n ++ (List.range (16 - n)).map (n + ·) := by rw [← List.range_add]; congr 1; omega
  rw [e, List.filter_append]
  have e2 : ((List.range (16 - n)).map (n + ·)).filter (fun k => s.testBit k) = [] := by
    rw [List.filter_eq_nil_iff]
    intro a ha
    simp at ha
    obtain ⟨q, -, rfl⟩ := ha
    have : s.testBit (n + q) = false := Nat.testBit_lt_two_pow (Nat.lt_of_lt_of_le hs (Nat.pow_le_pow_right (by decide) (by omega)))
    simp [this]
  rw [e2, List.append_nil]
/-- The best of the sets below. -/
def bestU (d : Hd) (b : Bool) (n : Nat) : Nat → List Nat
  | 0 => []
  | s + 1 => if (goodU d b s n && (decide ((bestU d b n s).length < (bitsL s).length) || (decide ((bitsL s).length = (bestU d b n s).length) && lessL (bitsL s) (bestU d b n s)))) = true then bitsL s else bestU d b n s
theorem bestU_best {d : Hd} {b : Bool} {n : Nat} : ∀ {s : Nat}, (bestU d b n s = [] ∨ ∃ t, t < s ∧ goodU d b t n = true ∧ bitsL t = bestU d b n s) ∧ ∀ t, t < s → goodU d b t n = true → beats (bestU d b n s) (bitsL t)
  | 0 => ⟨.inl rfl, fun t h => absurd h (by omega)⟩
  | s + 1 => by
    obtain ⟨h1, h2⟩ := bestU_best (d := d) (b := b) (n := n) (s := s)
    simp only [bestU]
    by_cases hc : (goodU d b s n && (decide ((bestU d b n s).length < (bitsL s).length) || (decide ((bitsL s).length = (bestU d b n s).length) && lessL (bitsL s) (bestU d b n s)))) = true
    · rw [if_pos hc]
      rw [Bool.and_eq_true, Bool.or_eq_true, Bool.and_eq_true, decide_eq_true_eq, decide_eq_true_eq] at hc
      refine ⟨.inr ⟨s, by omega, hc.1, rfl⟩, fun t ht hg => ?_⟩
      rcases Nat.lt_succ_iff_lt_or_eq.1 ht with ht | rfl
      · have hb := h2 t ht hg
        rcases hc.2 with hc | ⟨hc, hl⟩
        · refine .inl ?_
          rcases hb with h | ⟨h, -⟩ <;> omega
        · rcases hb with h | ⟨h, g⟩
          · exact .inl (by omega)
          · refine .inr ⟨by omega, ?_⟩
            cases e : lessL (bitsL t) (bitsL s) with
            | false => rfl
            | true => rw [lessL_trans e hl] at g; cases g
      · exact beats_self _
    · rw [if_neg hc]
      refine ⟨?_, fun t ht hg => ?_⟩
      · rcases h1 with h | ⟨t, ht, hg, e⟩
        · exact .inl h
        · exact .inr ⟨t, by omega, hg, e⟩
      · rcases Nat.lt_succ_iff_lt_or_eq.1 ht with ht | rfl
        · exact h2 t ht hg
        · rw [hg, Bool.true_and] at hc
          have h3 : ¬ (bestU d b n t).length < (bitsL t).length := fun h => hc (by rw [decide_eq_true h]; rfl)
          rcases Nat.lt_or_eq_of_le (Nat.le_of_not_lt h3) with h | h
          · exact .inl h
          · refine .inr ⟨h, ?_⟩
            cases e : lessL (bitsL t) (bestU d b n t) with
            | false => rfl
            | true => exact absurd (by rw [decide_eq_true h, e, Bool.true_and, Bool.or_true]) hc
/-- The set of a list. -/
def setOf : List Nat → Nat
  | [] => 0
  | i :: l => setOf l ||| 2 ^ i
theorem setOf_bit (j : Nat) : ∀ l : List Nat, (setOf l).testBit j = decide (j ∈ l)
  | [] => by simp [setOf]
  | i :: l => by
    simp only [setOf, Nat.testBit_or, setOf_bit j l, Nat.testBit_two_pow, List.mem_cons]
    by_cases h1 : j = i
    · subst h1; simp
    · have : ¬ i = j := fun h => h1 h.symm
      simp [h1, this]
theorem setOf_lt {n : Nat} : ∀ {l : List Nat}, (∀ i ∈ l, i < n) → setOf l < 2 ^ n
  | [], _ => Nat.two_pow_pos n
  | i :: l, h => Nat.or_lt_two_pow (setOf_lt fun j hj => h j (List.mem_cons_of_mem _ hj)) (Nat.pow_lt_pow_right (by decide) (h i (List.mem_cons_self ..)))
theorem filter_mem_sub : ∀ {T l : List Nat}, T.Sublist l → l.Nodup → l.filter (fun k => decide (k ∈ T)) = T
  | _, _, .slnil, _ => rfl
  | T, _ :: l, .cons a h, hn => by
    obtain ⟨h1, h2⟩ := List.nodup_cons.1 hn
    rw [List.filter_cons, if_neg (by simpa using fun hm => h1 (h.subset hm))]
    exact filter_mem_sub h h2
  | _ :: T, _ :: l, .cons_cons a h, hn => by
    obtain ⟨h1, h2⟩ := List.nodup_cons.1 hn
    rw [List.filter_cons, if_pos (by simp)]
    congr 1
    have e := filter_mem_sub h h2
    rw [← e]
    apply List.filter_congr
    intro x hx
    rw [e]
    have : x ≠ a := fun e => h1 (e ▸ hx)
    simp [this]
theorem bits_setOf {T : List Nat} (h : T.Sublist (List.range 16)) : bitsL (setOf T) = T := by
  unfold bitsL
  simp only [setOf_bit]
  exact filter_mem_sub h List.nodup_range
/-- Both ways give the same. -/
theorem bestU_most {d : Hd} {b : Bool} {n : Nat} (hn : n ≤ 14) (hsym : ∀ i k, i < n → k < n → foe d i k = foe d k i) : bestU d b n (2 ^ n) = mostL (fun a c => foe d a c == b) (List.range n) := by
  obtain ⟨h1, h2, h3⟩ := mostL_best (fun a c => foe d a c == b) n (List.range n) (by simp) List.pairwise_lt_range
  obtain ⟨g1, g2⟩ := bestU_best (d := d) (b := b) (n := n) (s := 2 ^ n)
  have hlt : ∀ {T : List Nat}, T.Sublist (List.range n) → ∀ i ∈ T, i < n := fun h i hi => List.mem_range.1 (h.subset hi)
  have swap : ∀ {T : List Nat}, T.Sublist (List.range n) → (T.Pairwise (fun a c => (foe d a c == b) = true) ↔ T.Pairwise (fun k i => (foe d i k == b) = true)) := fun {T} h => by
    constructor
    · intro hp
      exact hp.imp_of_mem fun ha hc hq => by rw [hsym _ _ (hlt h _ hc) (hlt h _ ha)]; exact hq
    · intro hp
      exact hp.imp_of_mem fun ha hc hq => by rw [hsym _ _ (hlt h _ ha) (hlt h _ hc)]; exact hq
  have h16 : (List.range n).Sublist (List.range 16) := List.range_sublist.2 (by omega)
  refine (beats_eq (h3 _ ?_ ?_) ?_).symm
  · rcases g1 with e | ⟨t, ht, -, e⟩
    · rw [e]; exact List.nil_sublist _
    · rw [← e, ← bitsB_eq ht (by omega)]; exact List.filter_sublist
  · rcases g1 with e | ⟨t, ht, hg, e⟩
    · rw [e]; exact List.Pairwise.nil
    · rw [← e, ← bitsB_eq ht (by omega)]
      exact (swap List.filter_sublist).2 (goodU_iff.1 hg)
  · have e := bits_setOf (h1.trans h16)
    have hs := setOf_lt (hlt h1)
    have hb := g2 (setOf (mostL (fun a c => foe d a c == b) (List.range n))) hs (goodU_iff.2 (by rw [bitsB_eq hs (by omega), e]; exact (swap h1).1 h2))
    rw [e] at hb
    exact hb
end Go.Proofs.YthodkbmenndnoaaDoor

/-
  (impl.members).demand, impl.flockWith's deferred closure by contracts; two results in memory.
-/
namespace Go.Proofs.YthodkbmenndnoaaDoor
open Go Go.RowKit Go.BigFrame Go.Extern.Stop Go.Stop Go.Extern

/-- What stands for a goat that is none. -/
def strayV (g : Int) : Value := .iface 150 (.int .i64 g)

theorem results_cells {P : Program} {fn : Func} {p q : Tmp} {t u : TypeId} (h : fn.results = #[.cell p t, .cell q u]) (tmps : Array Value) {W : World} {b n : Nat} {f : Nat → Value} {b2 : Nat} {v : Value}
    (hp : tmps.getD p undef = .pointer (some ⟨b, 0, none⟩)) (hg : At W b n f) (hT : RowT P t n) (hq : tmps.getD q undef = .pointer (some ⟨b2, 0, none⟩)) (hv : W.cell? ⟨b2, 0, none⟩ = some v) (hU : CellT P u) :
    (results fn tmps).run P W = .ok (.tuple #[.agg (arr n f), v]) W := by
  have h1 : (asAddr (.pointer (some ⟨b, 0, none⟩))).run P W = .ok ⟨b, 0, none⟩ W := rfl
  have h2 : (asAddr (.pointer (some ⟨b2, 0, none⟩))).run P W = .ok ⟨b2, 0, none⟩ W := rfl
  have hp' : tmps[p]?.getD undef = .pointer (some ⟨b, 0, none⟩) := by simpa using hp
  have hq' : tmps[q]?.getD undef = .pointer (some ⟨b2, 0, none⟩) := by simpa using hq
  simp only [results, h]
  simp [Sem.run_bind, Result.andThen, hp', hq', h1, h2, loadVar_at hg hT, run_load_cell hU hv]

set_option maxRecDepth 100000 in
theorem demand_ok (a : Option Addr) (n c : Nat) (g : Int) (hg : 0 ≤ g ∧ g < n) (w : World) :
    Calls Tryd.prog 107 #[.slice a n c, .int .i64 g] w fun e w' => e = .returned (.tuple #[]) ∧ Below w.heap.size w w' := by
  have d0 : decide (g < 0) = false := decide_eq_false (by omega)
  have d1 : decide ((n : Int) ≤ g) = false := decide_eq_false (by omega)
  go_enter Tryd.func107, Tryd.ntmps107
  go_wp2
  go_end0
  exact ⟨rfl, Below.refl _ _⟩
set_option maxRecDepth 100000 in
theorem demand_no (a : Option Addr) (n c : Nat) (g : Int) (hg : ¬ (0 ≤ g ∧ g < n)) (w : World) :
    Calls Tryd.prog 107 #[.slice a n c, .int .i64 g] w fun e w' => e = .panicked [{ v := strayV g, recovered := false }] ∧ Below w.heap.size w w' := by
  by_cases h : g < 0
  · have d0 : decide (g < 0) = true := decide_eq_true h
    clear hg
    go_enter Tryd.func107, Tryd.ntmps107
    go_wp2
    exact ⟨rfl, rfl, Below.refl _ _⟩
  · have d0 : decide (g < 0) = false := decide_eq_false h
    have d1 : decide ((n : Int) ≤ g) = true := decide_eq_true (by omega)
    clear hg
    go_enter Tryd.func107, Tryd.ntmps107
    go_wp2
    exact ⟨rfl, rfl, Below.refl _ _⟩
theorem ta_stray (g : Int) (w : World) : (Instr.typeAssert (strayV g) 20 123 true).run Tryd.prog w = .ok (.tuple #[strayV g, .bool true]) w := by kernel_rfl
theorem ta_none (w : World) : (Instr.typeAssert .nilIface 20 123 true).run Tryd.prog w = .ok (.tuple #[.nilIface, .bool false]) w := by kernel_rfl

theorem method_refusal (g : Int) (w : World) : (Go.method 301 150 (.int .i64 g) "loop.example/g01345/impl.refusal").run Tryd.prog w = .ok (151, .int .i64 g) w := by kernel_rfl

set_option maxRecDepth 100000 in
theorem catch_idle (p : Nat) (w : World) :
    CallsD Tryd.prog 106 #[.pointer (some ⟨p, 0, none⟩)] .returning w fun e u' w' => e = .returned (.tuple #[]) ∧ u' = .returning ∧ w' = w := by
  have h1 := ta_none
  refine callsD_of_wpS Tryd.func106 rfl fun c₀ cs hu => ?_
  apply wpS_seq
  apply wpS_region
  simp [wpOpsS, go_sem, recoverD, hu, Tryd.ntmps106, Exit.thenS, h1]
  refine wpS_of_wp ?_
  go_wp2
  cases c₀
  simp_all [bodyPostS, results, Tryd.results106]

theorem refusal_any (g : Int) (w : World) : Calls Tryd.prog 151 #[.int .i64 g] w fun e w' => e = .returned (strayV g) ∧ w' = w := by
  go_enter Tryd.func151, Tryd.ntmps151
  go_wp2
  go_ret
  exact ⟨rfl, rfl⟩
set_option maxRecDepth 100000 in
set_option maxHeartbeats 1000000 in
theorem catch_stray (p : Nat) (v : Value) (g : Int) {b0 : Base} {L : Blocks} (w : World) (hM : Mem b0 ((p, 1, fun _ => v) :: L) w) (hp : b0.B ≤ p) :
    CallsD Tryd.prog 106 #[.pointer (some ⟨p, 0, none⟩)] (.panicking [{ v := strayV g, recovered := false }]) w fun e u' w' =>
      e = .returned (.tuple #[]) ∧ u' = .panicking [{ v := strayV g, recovered := true }] ∧ Mem b0 ((p, 1, fun _ => strayV g) :: L) w' := by
  have h1 := ta_stray g
  have h2 := method_refusal g
  refine callsD_of_wpS Tryd.func106 rfl fun c₀ cs hu => ?_
  apply wpS_seq
  apply wpS_region
  simp [wpOpsS, go_sem, recoverD, hu, Tryd.ntmps106, Exit.thenS, h1]
  obtain ⟨R, hR⟩ : ∃ R : Ending → FrameMode → World → Prop, (fun e u' w' => e = Ending.returned (Value.tuple #[]) ∧ u' = FrameMode.panicking [{ v := strayV g, recovered := true }] ∧ Mem b0 ((p, 1, fun _ => strayV g) :: L) w') = R := ⟨_, rfl⟩
  rw [hR]
  have HR := Lib.hid hR
  clear hR hu h1
  refine wpS_of_wp ?_
  simp only [Array.replicate, List.replicate, List.append_toArray, List.setIfInBounds_toArray, List.set_cons_succ, List.set_cons_zero, List.cons_append, List.nil_append]
  unfold strayV
  go_wp2_with (first | (go_at_call 151; refine (refusal_any g _).mono ?_; rintro e W' ⟨rfl, rfl⟩) | (refine wpList_set1 rfl _ _ _ rfl _ _ rfl (strayV g) rfl rfl hM 0 rfl hp (cellTab _ rfl) (by omega) ?_; intro W2 hM'; clear hM; have hM := hM'; clear hM'; simp only [List.set] at hM))
  have hM2 := hM.re 0 rfl (fun _ => strayV g) (fun k hk => by simp [upd]; omega)
  refine ⟨rfl, .panicking [{ v := strayV g, recovered := true }], rfl, .tuple #[], ?_, ?_⟩
  · simp [results, Tryd.results106]
  · rw [← HR.out]
    exact ⟨rfl, rfl, hM2⟩
end Go.Proofs.YthodkbmenndnoaaDoor

/-
  PLAIN LAWS over any program: in a drawn region with reads at any places, a store of one cell.
-/
namespace Go.Proofs.YthodkbmenndnoaaDoor
open Go Go.RowKit

section
variable {P : Program} {o : Oper} {a : Act} {w : Base} {L x : Blocks} {K : Act → (World → Prop) → Prop}
theorem step_set1 (ty : TypeId) (y z : Operand) (ho : o.op = .store ty y z) (b off : Nat) (hx : a.eval y = .pointer (some ⟨b, off, none⟩))
    (v : Value) (hy : a.eval z = v) (h1 : v.oneCell' = true) (i : Nat) {n : Nat} {f : Nat → Value} (hi : x[i]? = some (b, n, f)) (hb : w.B ≤ b) (hT : CellT P ty) (hle : off < n)
    (h : K (a.put o.dst undef) (Mem w ((x.set i (b, n, upd f off v)) ++ L))) : stepT P (Mem w L) o a (Mem w (x ++ L)) K := by
  obtain ⟨_, hm⟩ := hT
  have hil : i < x.length := (List.getElem?_eq_some_iff.1 hi).1
  have hi' : (x ++ L)[i]? = some (b, n, f) := by rw [List.getElem?_append_left hil]; exact hi
  intro W hM
  obtain ⟨t, ht⟩ := hM.ats i b n f hi'
  have hc := (hM.ats i b n f hi').cell hle
  have hf := (hM.ats i b n f hi').frozen off
  have hsz : (sizeOf ty).run P W = .ok 1 W := by
    cases hq : P.info? ty with
    | none => simp [hq] at hm
    | some i => simp [hq] at hm; simp [sizeOf, typeInfo, hq, hm]
  have hcells : v.cells = #[v] := by cases v <;> first | rfl | (simp [Value.oneCell'] at h1)
  have hadd : (⟨b, off, none⟩ : Addr).add 0 = ⟨b, off, none⟩ := by simp [Addr.add]
  have hs : (storeCells ⟨b, off, none⟩ [v] 0).run P W = .ok () (W.setRow b (arr n (upd f off v))) := by
    simp only [storeCells, Sem.run_bind, hadd, run_store P W _ v _ h1, hc]
    simp [hf, setCell_eq_setRow W b off _ t (0, 0) v ht, arr_set]
  have hM' := hM.setRow i hi' hb (upd f off v)
  rw [List.set_append_left _ _ hil] at hM'
  refine .inl ⟨undef, _, _, .inr ⟨?_, rfl⟩, kept_mem w L (x.set i (b, n, upd f off v)), hM', h⟩
  unfold execOp
  simp only [ho, hx, hy, Instr.storeAt, Instr.sureAddr, storeVar, Sem.run_bind, Sem.run_pure, Result.andThen_ok, hcells, hsz, List.size_toArray, List.length_cons, List.length_nil, Nat.zero_add, ne_eq, not_true_eq_false, if_false, hs]
/-- A load of a cell that every world of the class holds. -/
theorem b_old {K : Act → Prop} {C : World → Prop} (ty : TypeId) (y : Operand) (ho : o.op = .load ty y) (b off : Nat) (hx : a.eval y = .pointer (some ⟨b, off, none⟩)) (hT : CellT P ty) (v : Value) (hc : ∀ W, C W → W.cell? ⟨b, off, none⟩ = some v)
    (h : K (a.put o.dst v)) : qB P o a C K := by
  refine ⟨v, fun W hM => ?_, h⟩
  have hl := run_load_cell (P := P) hT (hc W hM)
  unfold Oper.quietAt execOp
  simp only [ho, hx, Instr.loadAt, Instr.sureAddr, Sem.run_bind, Sem.run_pure, Result.andThen_ok, hl]
  exact ⟨rfl, rfl⟩
end
end Go.Proofs.YthodkbmenndnoaaDoor

